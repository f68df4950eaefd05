/- package journal: mayHave, numberOf, value. -/
import Derived.Test.YtannocdcohofbaaJM
import Derived.Test.YtannocdcohofbaaSvBase
namespace Go.Proofs.Ytannocdcohofbaa
open Go.RowKit

def numV (n : Nat) : Value := .agg #[.int .u8 ((n % 256 : Nat) : Int), .int .u8 ((n / 256 % 256 : Nat) : Int), .int .u8 ((n / 65536 % 256 : Nat) : Int), .int .u8 ((n / 16777216 % 256 : Nat) : Int)]
theorem mayHave_any (n : Nat) (w : World) : Calls Try.prog 40 #[.int .u64 n] w fun e w' => e = .returned (.bool (decide (1 ≤ n ∧ n ≤ 65537))) ∧ w' = w := by
  by_cases h1 : 1 ≤ n
  · have d1 : ((n : Int) ≥ 1) = True := by simp; omega
    by_cases h2 : n ≤ 65537
    · have d2 : ((n : Int) ≤ 65537) = True := by simp; omega
      have e : decide (1 ≤ n ∧ n ≤ 65537) = true := by simp; omega
      rw [e]
      clear e
      go_enter Try.func40, Try.ntmps40
      go_wp2
      go_ret
      exact ⟨rfl, rfl⟩
    · have d2 : ((n : Int) ≤ 65537) = False := by simp; omega
      have e : decide (1 ≤ n ∧ n ≤ 65537) = false := by simp; omega
      rw [e]
      clear e
      go_enter Try.func40, Try.ntmps40
      go_wp2
      go_ret
      exact ⟨rfl, rfl⟩
  · obtain rfl : n = 0 := by omega
    go_enter Try.func40, Try.ntmps40
    go_wp2
    go_ret
    exact ⟨rfl, rfl⟩
def byt (n k : Nat) : Nat := n / 256 ^ k % 256
structure Part4 (n k B : Nat) (W : World) : Prop where
  lt : B < W.heap.size
  done : ∀ i, i < k → W.cell? ⟨B, i, none⟩ = some (.int .u8 ((byt n i : Nat) : Int))
  left : ∀ i, k ≤ i → i < 4 → W.cell? ⟨B, i, none⟩ = some (.int .u8 0)
  soft : ∀ i, W.frozen? ⟨B, i, none⟩ = false
theorem at_ne4 {B i k : Nat} (h : i ≠ k) : (⟨B, i, none⟩ : Addr) ≠ ⟨B, k, none⟩ := fun e => h (by injection e)
theorem Part4.step {p k B : Nat} {W : World} (h : Part4 p k B W) (hk : k < 4) (y : Int) (hy : y = ((byt p k : Nat) : Int)) : Part4 p (k + 1) B (W.setCell ⟨B, k, none⟩ (.int .u8 y)) := by
  subst hy
  refine ⟨by simpa using h.lt, fun i hi => ?_, fun i hi h2 => ?_, fun i => by rw [World.frozen?_setCell]; exact h.soft i⟩
  · by_cases e : i = k
    · subst e; exact World.cell?_setCell_same' _ _ _ (by rw [h.left i (Nat.le_refl _) hk]; rfl)
    · rw [World.cell?_setCell_other _ _ _ _ (at_ne4 (by omega))]; exact h.done i (by omega)
  · rw [World.cell?_setCell_other _ _ _ _ (at_ne4 (by omega))]; exact h.left i (by omega) h2
theorem Part4.far {p k B : Nat} {W : World} (h : Part4 p k B W) (q : Addr) (v : Value) (hne : q.block ≠ B) : Part4 p k B (W.setCell q v) :=
  ⟨by simpa using h.lt, fun i hi => (World.cell?_setCell_far _ _ _ _ hne).trans (h.done i hi), fun i hi h2 => (World.cell?_setCell_far _ _ _ _ hne).trans (h.left i hi h2), fun i => by rw [World.frozen?_setCell]; exact h.soft i⟩
def zero4 : Array Value := #[.int .u8 0, .int .u8 0, .int .u8 0, .int .u8 0]
theorem zero4_get (i : Nat) (h : i < 4) : zero4[i]? = some (.int .u8 0) := by
  rcases (by omega : i = 0 ∨ i = 1 ∨ i = 2 ∨ i = 3) with rfl | rfl | rfl | rfl <;> rfl
theorem part4_block {p B : Nat} {W : World} {t : TypeId} (h : W.heap[B]? = some (.cells zero4 t (0, 0))) : Part4 p 0 B W := by
  refine ⟨(Array.getElem?_eq_some_iff.1 h).1, fun i hi => by omega, fun i _ hi => ?_, fun i => ?_⟩
  · unfold World.cell?; simp only [h]; exact zero4_get i hi
  · unfold World.frozen?; simp [h]
theorem part4_new2 (p : Nat) (w : World) (t : TypeId) : Part4 p 0 (w.heap.size + 1) ((w.alloc (.cells zero4 t)).alloc (.cells zero4 t)) := by
  have h := heap_alloc_new (w.alloc (.cells zero4 t)) (.cells zero4 t)
  rw [World.size_alloc] at h
  exact part4_block h
theorem part4_new1 (p : Nat) (w : World) (t : TypeId) : Part4 p 0 w.heap.size ((w.alloc (.cells zero4 t)).alloc (.cells zero4 t)) :=
  part4_block ((Below.heap_alloc _ _ _ (by simp)).trans (heap_alloc_new w (.cells zero4 t)))
set_option maxHeartbeats 1000000 in
theorem numberOf_any (n : Nat) (w : World) (_hn : n < 18446744073709551616) :
    Calls Try.prog 41 #[.int .u64 n] w fun e w' => e = .returned (numV n) ∧ Below w.heap.size w w' := by
  go_enter Try.func41, Try.ntmps41
  go_wp2
  go_loopw [5] (fun i wr => ∃ k : Nat, k ≤ 4 ∧ i = .int .i64 k ∧ Below w.heap.size w wr ∧ Part4 n k (w.heap.size + 1) wr ∧ Part4 n 0 w.heap.size wr) (fun i _ => 4 - (intOf i).toNat)
  case atStart => exact ⟨0, by omega, rfl, ((Below.refl _ _).alloc (Nat.le_refl _) _).alloc (by simp) _, part4_new2 n w _, part4_new1 n w _⟩
  case round =>
    obtain ⟨k, hk, rfl, hB, hP, hQ⟩ := hrel
    by_cases hlt : k < 4
    · have hck := hP.left k (Nat.le_refl _) hlt
      have hfk := hP.soft k
      have HB := hide hB; have HP := hide hP; have HQ := hide hQ
      clear hB hP hQ
      rcases (by omega : k = 0 ∨ k = 1 ∨ k = 2 ∨ k = 3) with rfl | rfl | rfl | rfl
      all_goals
        go_wp2
        go_roundw
        case rel => exact ⟨_, by omega, by go_num, HB.out.setCell (by simp) _, HP.out.step (by omega) _ (by simp [byt]), HQ.out.far _ _ (by simp)⟩
        case measure => simp [intOf]
    · obtain rfl : k = 4 := by omega
      have c0 := hP.done 0 (by omega); have c1 := hP.done 1 (by omega); have c2 := hP.done 2 (by omega); have c3 := hP.done 3 (by omega)
      have d0 := hQ.left 0 (by omega) (by omega); have d1 := hQ.left 1 (by omega) (by omega); have d2 := hQ.left 2 (by omega) (by omega); have d3 := hQ.left 3 (by omega) (by omega)
      have hsf := hQ.soft
      have HB := hide hB
      clear hB hP hQ
      go_wp2
      refine bodyPost_ret (v := .agg #[.int .u8 ((byt n 0 : Nat) : Int), .int .u8 ((byt n 1 : Nat) : Int), .int .u8 ((byt n 2 : Nat) : Int), .int .u8 ((byt n 3 : Nat) : Int)]) (by simp [results, Try.results41, go_sem, d0, d1, d2, d3]) rfl ⟨by simp [numV, byt], ?_⟩
      exact (((HB.out.setCell (Nat.le_refl _) _).setCell (Nat.le_refl _) _).setCell (Nat.le_refl _) _).setCell (Nat.le_refl _) _
theorem or_up (a c m : Nat) (ha : a < 2 ^ m) (hc : c < 256) (hm : m ≤ 24) : bits .or .u64 (a : Int) ((c : Int) * 2 ^ m) = ((a + c * 2 ^ m : Nat) : Int) := by
  have e : ((c : Int) * 2 ^ m) = ((2 ^ m * c : Nat) : Int) := by rw [Nat.mul_comm]; simp
  have h2 : (2 : Nat) ^ m ≤ 2 ^ 24 := Nat.pow_le_pow_right (by decide) hm
  have h3 : 2 ^ m * c < 18446744073709551616 := by
    have : 2 ^ m * c ≤ 2 ^ 24 * 256 := Nat.mul_le_mul h2 (by omega)
    omega
  rw [e, u64_or_nat _ _ (by omega) h3]
  have h := Nat.two_pow_add_eq_or_of_lt (i := m) (b := a) ha c
  rw [Nat.or_comm, ← h, Nat.add_comm, Nat.mul_comm]
def arr4 (c0 c1 c2 c3 : Nat) : Value := .agg #[.int .u8 (c0 : Int), .int .u8 (c1 : Int), .int .u8 (c2 : Int), .int .u8 (c3 : Int)]
set_option maxRecDepth 100000 in
theorem run_ix4 (v0 v1 v2 v3 : Value) (W : World) : (Instr.index 76 (.agg #[v0, v1, v2, v3]) (.int .i64 0)).run Try.prog W = .ok v0 W ∧ (Instr.index 76 (.agg #[v0, v1, v2, v3]) (.int .i64 1)).run Try.prog W = .ok v1 W ∧ (Instr.index 76 (.agg #[v0, v1, v2, v3]) (.int .i64 2)).run Try.prog W = .ok v2 W ∧ (Instr.index 76 (.agg #[v0, v1, v2, v3]) (.int .i64 3)).run Try.prog W = .ok v3 W := by
  refine ⟨?_, ?_, ?_, ?_⟩ <;> rfl
set_option maxRecDepth 100000 in
set_option maxHeartbeats 1000000 in
theorem value_any (c0 c1 c2 c3 : Nat) (w : World) (h0 : c0 < 256) (h1 : c1 < 256) (h2 : c2 < 256) (h3 : c3 < 256) :
    Calls Try.prog 55 #[arr4 c0 c1 c2 c3] w fun e w' => e = .returned (.int .u64 ((c0 + 256 * c1 + 65536 * c2 + 16777216 * c3 : Nat) : Int)) ∧ Below w.heap.size w w' := by
  have E1 := hide (fun (t : Nat) (h : t < 256) => or_up t c1 8 h h1 (by omega))
  have E2 := hide (fun (t : Nat) (h : t < 65536) => or_up t c2 16 h h2 (by omega))
  have E3 := hide (fun (t : Nat) (h : t < 16777216) => or_up t c3 24 h h3 (by omega))
  have E0 : bits .or .u64 0 (c0 : Int) = (c0 : Int) := by
    have := u64_or_nat 0 c0 (by decide) (by omega)
    rw [Nat.zero_or] at this
    exact this
  obtain ⟨V, hV⟩ : ∃ V, V = c0 + 256 * c1 + 65536 * c2 + 16777216 * c3 := ⟨_, rfl⟩
  rw [← hV]
  have HV := hide hV
  clear hV
  unfold arr4
  go_enter Try.func55, Try.ntmps55
  go_wp2
  go_loopw [3, 7] (fun x i wr => ∃ k t : Nat, k ≤ 4 ∧ i = .int .i64 k ∧ Below w.heap.size w wr ∧ x = .int .u64 (t : Int) ∧ Hid ((k = 0 → t = 0) ∧ (k = 1 → t = c0) ∧ (k = 2 → t = c0 + 256 * c1) ∧ (k = 3 → t = c0 + 256 * c1 + 65536 * c2) ∧ (k = 4 → t = c0 + 256 * c1 + 65536 * c2 + 16777216 * c3))) (fun _ i _ => 4 - (intOf i).toNat)
  case atStart => exact ⟨0, 0, by omega, rfl, (Below.refl _ _).alloc (Nat.le_refl _) _, rfl, ⟨by simp, by simp, by simp, by simp, by simp⟩⟩
  case round =>
    obtain ⟨k, t, hk, rfl, hB, rfl, HT⟩ := hrel
    obtain ⟨i0, i1, i2, i3⟩ := run_ix4 (.int .u8 (c0 : Int)) (.int .u8 (c1 : Int)) (.int .u8 (c2 : Int)) (.int .u8 (c3 : Int)) wr
    have HB := hide hB
    clear hB
    rcases (by omega : k = 0 ∨ k = 1 ∨ k = 2 ∨ k = 3 ∨ k = 4) with rfl | rfl | rfl | rfl | rfl
    · obtain rfl := HT.out.1 rfl
      go_wp2
      go_roundw
      case rel => exact ⟨1, c0, by omega, by go_num, HB.out, rfl, ⟨by simp, by simp, by simp, by simp, by simp⟩⟩
      case measure => simp [intOf]
    · have ht := HT.out.2.1 rfl
      have e := E1.out t (by omega)
      have HE := hide ht
      clear ht
      go_wp2
      go_roundw
      case rel => exact ⟨2, _, by omega, by go_num, HB.out, congrArg (Value.int .u64) e, ⟨by simp, by simp, fun _ => by have := HE.out; omega, by simp, by simp⟩⟩
      case measure => simp [intOf]
    · have ht := HT.out.2.2.1 rfl
      have e := E2.out t (by omega)
      have HE := hide ht
      clear ht
      go_wp2
      go_roundw
      case rel => exact ⟨3, _, by omega, by go_num, HB.out, congrArg (Value.int .u64) e, ⟨by simp, by simp, by simp, fun _ => by have := HE.out; omega, by simp⟩⟩
      case measure => simp [intOf]
    · have ht := HT.out.2.2.2.1 rfl
      have e := E3.out t (by omega)
      have HE := hide ht
      clear ht
      go_wp2
      go_roundw
      case rel => exact ⟨4, _, by omega, by go_num, HB.out, congrArg (Value.int .u64) e, ⟨by simp, by simp, by simp, by simp, fun _ => by have := HE.out; omega⟩⟩
      case measure => simp [intOf]
    · have HE := hide (HT.out.2.2.2.2 rfl)
      go_wp2
      go_ret
      have e : V = t := by rw [HV.out, HE.out]
      exact ⟨by rw [e]; rfl, HB.out⟩
end Go.Proofs.Ytannocdcohofbaa
