/- Pieces of the proof: JM, JA, JB. -/
import Derived.Test.YtpgkohimcofjnaaGreatDoorM10
import Derived.Test.YtpgkohimcofjnaaGreatDoorM11
import Derived.Test.YtpgkohimcofjnaaGreatDoorM12
import Derived.Test.YtpgkohimcofjnaaGreatDoorM1
import Derived.RegionTactic
/- Records as bytes: what a frame is, and what the records are that bytes begin with. -/
namespace Go.Proofs.YtpgkohimcofjnaaGreatDoor

def le4 (n : Nat) : List Nat := [n % 256, n / 256 % 256, n / 65536 % 256, n / 16777216 % 256]
def num4 (b : List Nat) : Nat := b.getD 0 0 + 256 * b.getD 1 0 + 65536 * b.getD 2 0 + 16777216 * b.getD 3 0
theorem le4_length (n : Nat) : (le4 n).length = 4 := rfl
theorem num4_le4 (n : Nat) (t : List Nat) (h : n < 4294967296) : num4 (le4 n ++ t) = n := by
  simp [num4, le4]
  omega
theorem le4_inj {m n : Nat} (hm : m < 4294967296) (hn : n < 4294967296) (h : le4 m = le4 n) : m = n := by
  have h1 := num4_le4 m [] hm
  have h2 := num4_le4 n [] hn
  rw [h] at h1
  omega
def frm (xs : List Nat) : List Nat := le4 xs.length ++ (le4 (sumF 2 xs) ++ xs)
theorem frm_length (xs : List Nat) : (frm xs).length = xs.length + 8 := by simp [frm, le4]
theorem frm_bytes (xs : List Nat) (h : ∀ x ∈ xs, x < 256) : ∀ x ∈ frm xs, x < 256 := by
  intro x hx
  simp only [frm, le4, List.cons_append, List.nil_append, List.mem_cons] at hx
  rcases hx with rfl | rfl | rfl | rfl | rfl | rfl | rfl | rfl | hx
  all_goals first | exact h x hx | exact Nat.mod_lt _ (by decide)
/- The record of the frame that bytes begin with; none, if there is none. -/
abbrev isR (b : List Nat) : Prop := 8 ≤ b.length ∧ 1 ≤ num4 b ∧ num4 b ≤ 65537 ∧ num4 b ≤ b.length - 8 ∧ le4 (sumF 2 ((b.drop 8).take (num4 b))) = (b.drop 4).take 4
def fstR (b : List Nat) : List Nat := if isR b then (b.drop 8).take (num4 b) else []
theorem fstR_no {b : List Nat} (h : ¬ isR b) : fstR b = [] := if_neg h
theorem fstR_yes {b : List Nat} (h : isR b) : fstR b = (b.drop 8).take (num4 b) := if_pos h
theorem fstR_len {b : List Nat} (h : isR b) : (fstR b).length = num4 b := by rw [fstR_yes h]; simp; have := h.2.2.2.1; omega
theorem fstR_le (b : List Nat) (h : fstR b ≠ []) : 1 ≤ (fstR b).length ∧ (fstR b).length ≤ 65537 ∧ (fstR b).length + 8 ≤ b.length ∧ fstR b = (b.drop 8).take (fstR b).length := by
  by_cases hr : isR b
  · rw [fstR_len hr, fstR_yes hr]
    have := hr.1; have := hr.2.2.2.1
    exact ⟨hr.2.1, hr.2.2.1, by omega, rfl⟩
  · exact absurd (fstR_no hr) h
theorem sum32 (xs : List Nat) (h : ∀ x ∈ xs, x < 256) : sumF 2 xs < 4294967296 := sumF_lt 2 xs h
abbrev okR (xs : List Nat) : Prop := 1 ≤ xs.length ∧ xs.length ≤ 65537
theorem frm_drop8 (xs t : List Nat) : (frm xs ++ t).drop 8 = xs ++ t := by simp [frm, le4]
theorem frm_drop4 (xs t : List Nat) : ((frm xs ++ t).drop 4).take 4 = le4 (sumF 2 xs) := by simp [frm, le4]
theorem frm_num4 (xs t : List Nat) (h : xs.length < 4294967296) : num4 (frm xs ++ t) = xs.length := by
  have : frm xs ++ t = le4 xs.length ++ (le4 (sumF 2 xs) ++ xs ++ t) := by simp [frm]
  rw [this, num4_le4 _ _ h]
theorem fstR_frm (xs t : List Nat) (hk : okR xs) : fstR (frm xs ++ t) = xs := by
  have hn := frm_num4 xs t (by have := hk.2; omega)
  have h8 := frm_drop8 xs t
  have ht : ((frm xs ++ t).drop 8).take (num4 (frm xs ++ t)) = xs := by rw [hn, h8]; simp
  have hr : isR (frm xs ++ t) := by
    refine ⟨by simp [frm_length]; omega, by rw [hn]; exact hk.1, by rw [hn]; exact hk.2, by rw [hn]; simp [frm_length]; omega, ?_⟩
    rw [ht, frm_drop4]
  rw [fstR_yes hr, ht]
/- The records that bytes begin with, each with its place. -/
def its : Nat → Nat → List Nat → List (Nat × List Nat)
  | 0, _, _ => []
  | f + 1, pos, b => if fstR b = [] then [] else (pos, fstR b) :: its f (pos + (8 + (fstR b).length)) (b.drop (8 + (fstR b).length))
def rd (b : List Nat) : List (List Nat) := (its b.length 0 b).map (·.2)
def used (rs : List (List Nat)) : Nat := (rs.map (fun r => 8 + r.length)).sum
theorem used_nil : used [] = 0 := rfl
theorem used_cons (r : List Nat) (rs : List (List Nat)) : used (r :: rs) = 8 + r.length + used rs := by simp [used]
theorem used_append (a b : List (List Nat)) : used (a ++ b) = used a + used b := by simp [used]
theorem its_stop (f pos : Nat) (b : List Nat) (h : fstR b = []) : its f pos b = [] := by
  cases f with
  | zero => rfl
  | succ f => simp [its, h]
theorem its_step (f pos : Nat) (b : List Nat) (hb : b.length ≤ f) (h : fstR b ≠ []) : its f pos b = (pos, fstR b) :: its (f - 1) (pos + (8 + (fstR b).length)) (b.drop (8 + (fstR b).length)) := by
  cases f with
  | zero => have := fstR_le b h; omega
  | succ f => simp [its, h]
theorem its_fuel : ∀ (f g pos : Nat) (b : List Nat), b.length ≤ f → b.length ≤ g → its f pos b = its g pos b := by
  intro f
  induction f with
  | zero =>
    intro g pos b h _
    have hb : b = [] := List.length_eq_zero_iff.1 (by omega)
    have h0 : fstR b = [] := by rw [hb]; exact fstR_no (fun k => by have := k.1; simp at this)
    rw [its_stop _ _ _ h0, its_stop _ _ _ h0]
  | succ f ih =>
    intro g pos b h1 h2
    by_cases h : fstR b = []
    · rw [its_stop _ _ _ h, its_stop _ _ _ h]
    · have hl := fstR_le b h
      rw [its_step _ _ _ h1 h, its_step _ _ _ h2 h, Nat.add_sub_cancel]
      rw [ih (g - 1) _ _ (by rw [List.length_drop]; omega) (by rw [List.length_drop]; omega)]
theorem its_shift : ∀ (f pos : Nat) (b : List Nat), (its f pos b).map (·.2) = (its f 0 b).map (·.2) := by
  intro f
  induction f with
  | zero => intro pos b; rfl
  | succ f ih =>
    intro pos b
    by_cases h : fstR b = []
    · rw [its_stop _ _ _ h, its_stop _ _ _ h]
    · simp only [its, if_neg h, List.map_cons]
      rw [ih (pos + _), ih (0 + _)]
theorem rd_stop (b : List Nat) (h : fstR b = []) : rd b = [] := by rw [rd, its_stop _ _ _ h]; rfl
theorem rd_step (b : List Nat) (h : fstR b ≠ []) : rd b = fstR b :: rd (b.drop (8 + (fstR b).length)) := by
  have hl := fstR_le b h
  rw [rd, its_step _ _ _ (Nat.le_refl _) h, List.map_cons, its_shift, rd]
  rw [its_fuel (b.length - 1) (b.drop (8 + (fstR b).length)).length _ _ (by rw [List.length_drop]; omega) (Nat.le_refl _)]
theorem rd_frm (xs t : List Nat) (hk : okR xs) : rd (frm xs ++ t) = xs :: rd t := by
  have e := fstR_frm xs t hk
  have hne : fstR (frm xs ++ t) ≠ [] := by rw [e]; intro h; rw [h] at hk; exact absurd hk.1 (by simp)
  rw [rd_step _ hne, e]
  congr 2
  rw [show 8 + xs.length = (frm xs).length by rw [frm_length]; omega, List.drop_left]
/- Bytes that records make. -/
def frms (rs : List (List Nat)) : List Nat := (rs.map frm).flatten
theorem frms_nil : frms [] = [] := rfl
theorem frms_cons (r : List Nat) (rs : List (List Nat)) : frms (r :: rs) = frm r ++ frms rs := by simp [frms]
theorem frms_snoc (rs : List (List Nat)) (r : List Nat) : frms (rs ++ [r]) = frms rs ++ frm r := by simp [frms]
theorem frms_length (rs : List (List Nat)) : (frms rs).length = used rs := by
  induction rs with
  | nil => rfl
  | cons r rs ih => rw [frms_cons, used_cons, List.length_append, ih, frm_length]; omega
theorem rd_frms (rs : List (List Nat)) (t : List Nat) (h : ∀ r ∈ rs, okR r) : rd (frms rs ++ t) = rs ++ rd t := by
  induction rs with
  | nil => rfl
  | cons r rs ih =>
    rw [frms_cons, List.append_assoc, rd_frm r _ (h r (List.mem_cons_self ..)), ih (fun x hx => h x (List.mem_cons_of_mem _ hx))]
    rfl
theorem rd_nil : rd [] = [] := rfl
theorem rd_frms_all (rs : List (List Nat)) (h : ∀ r ∈ rs, okR r) : rd (frms rs) = rs := by
  have := rd_frms rs [] h
  rw [rd_nil, List.append_nil, List.append_nil] at this
  exact this
theorem rd_used : ∀ (n : Nat) (b : List Nat), b.length ≤ n → used (rd b) ≤ b.length := by
  intro n
  induction n with
  | zero => intro b h; rw [show b = [] from List.length_eq_zero_iff.1 (by omega)]; exact Nat.le_refl _
  | succ n ih =>
    intro b h
    by_cases h0 : fstR b = []
    · rw [rd_stop b h0]; exact Nat.zero_le _
    · have hl := fstR_le b h0
      have := ih (b.drop (8 + (fstR b).length)) (by rw [List.length_drop]; omega)
      rw [rd_step b h0, used_cons]
      rw [List.length_drop] at this
      omega
theorem rd_ok : ∀ (n : Nat) (b : List Nat), b.length ≤ n → ∀ r ∈ rd b, okR r := by
  intro n
  induction n with
  | zero => intro b h; rw [show b = [] from List.length_eq_zero_iff.1 (by omega), rd_nil]; intro r hr; simp at hr
  | succ n ih =>
    intro b h r hr
    by_cases h0 : fstR b = []
    · rw [rd_stop b h0] at hr; simp at hr
    · have hl := fstR_le b h0
      rw [rd_step b h0] at hr
      rcases List.mem_cons.1 hr with rfl | hr
      · exact ⟨hl.1, hl.2.1⟩
      · exact ih _ (by rw [List.length_drop]; omega) r hr
/- A part of a frame has no record. -/
theorem fstR_part (xs : List Nat) (k : Nat) (hl : xs.length < 4294967296) (hk : k < (frm xs).length) : fstR ((frm xs).take k) = [] := by
  refine fstR_no fun h => ?_
  rw [frm_length] at hk
  have h1 := h.1
  have h4 := h.2.2.2.1
  rw [List.length_take, frm_length] at h1 h4
  have hn : num4 ((frm xs).take k) = xs.length := by
    have e : (frm xs).take k = le4 xs.length ++ (le4 (sumF 2 xs) ++ xs).take (k - 4) := by
      rw [frm, List.take_append, List.take_of_length_le (by rw [le4_length]; omega), le4_length]
    rw [e, num4_le4 _ _ hl]
  rw [hn] at h4
  omega
theorem rd_part (rs : List (List Nat)) (r : List Nat) (k : Nat) (h : ∀ r ∈ rs, okR r) (hr : okR r) (hk : k < (frm r).length) : rd (frms rs ++ (frm r).take k) = rs := by
  rw [rd_frms rs _ h, rd_stop _ (fstR_part r k (by have := hr.2; omega) hk), List.append_nil]
end Go.Proofs.YtpgkohimcofjnaaGreatDoor
/- package journal: mayHave, numberOf, value. -/
namespace Go.Proofs.YtpgkohimcofjnaaGreatDoor
open Go.RowKit

def numV (n : Nat) : Value := .agg #[.int .u8 ((n % 256 : Nat) : Int), .int .u8 ((n / 256 % 256 : Nat) : Int), .int .u8 ((n / 65536 % 256 : Nat) : Int), .int .u8 ((n / 16777216 % 256 : Nat) : Int)]
theorem mayHave_any (n : Nat) (w : World) : Calls Tryz.prog 173 #[.int .u64 n] w fun e w' => e = .returned (.bool (decide (1 ≤ n ∧ n ≤ 65537))) ∧ w' = w := by
  by_cases h1 : 1 ≤ n
  · have d1 : ((n : Int) ≥ 1) = True := by simp; omega
    by_cases h2 : n ≤ 65537
    · have d2 : ((n : Int) ≤ 65537) = True := by simp; omega
      have e : decide (1 ≤ n ∧ n ≤ 65537) = true := by simp; omega
      rw [e]
      clear e
      go_enter Tryz.func173, Tryz.ntmps173
      go_wp2
      go_ret
      exact ⟨rfl, rfl⟩
    · have d2 : ((n : Int) ≤ 65537) = False := by simp; omega
      have e : decide (1 ≤ n ∧ n ≤ 65537) = false := by simp; omega
      rw [e]
      clear e
      go_enter Tryz.func173, Tryz.ntmps173
      go_wp2
      go_ret
      exact ⟨rfl, rfl⟩
  · obtain rfl : n = 0 := by omega
    go_enter Tryz.func173, Tryz.ntmps173
    go_wp2
    go_ret
    exact ⟨rfl, rfl⟩
def byt (n k : Nat) : Nat := n / 256 ^ k % 256
structure Part4 (n k B : Nat) (W : World) : Prop where
  lt : B < W.heap.size
  done : ∀ i, i < k → W.cell? ⟨B, i, none⟩ = some (.int .u8 ((byt n i : Nat) : Int))
  left : ∀ i, k ≤ i → i < 4 → W.cell? ⟨B, i, none⟩ = some (.int .u8 0)
  soft : ∀ i, W.frozen? ⟨B, i, none⟩ = false
theorem at_ne4 {B i k : Nat} (h : i ≠ k) : (⟨B, i, none⟩ : Addr) ≠ ⟨B, k, none⟩ := fun e => h (by injection e)
theorem Part4.step {p k B : Nat} {W : World} (h : Part4 p k B W) (hk : k < 4) (y : Int) (hy : y = ((byt p k : Nat) : Int)) : Part4 p (k + 1) B (W.setCell ⟨B, k, none⟩ (.int .u8 y)) := by
  subst hy
  refine ⟨by simpa using h.lt, fun i hi => ?_, fun i hi h2 => ?_, fun i => by rw [World.frozen?_setCell]; exact h.soft i⟩
  · by_cases e : i = k
    · subst e; exact World.cell?_setCell_same' _ _ _ (by rw [h.left i (Nat.le_refl _) hk]; rfl)
    · rw [World.cell?_setCell_other _ _ _ _ (at_ne4 (by omega))]; exact h.done i (by omega)
  · rw [World.cell?_setCell_other _ _ _ _ (at_ne4 (by omega))]; exact h.left i (by omega) h2
theorem Part4.far {p k B : Nat} {W : World} (h : Part4 p k B W) (q : Addr) (v : Value) (hne : q.block ≠ B) : Part4 p k B (W.setCell q v) :=
  ⟨by simpa using h.lt, fun i hi => (World.cell?_setCell_far _ _ _ _ hne).trans (h.done i hi), fun i hi h2 => (World.cell?_setCell_far _ _ _ _ hne).trans (h.left i hi h2), fun i => by rw [World.frozen?_setCell]; exact h.soft i⟩
def zero4 : Array Value := #[.int .u8 0, .int .u8 0, .int .u8 0, .int .u8 0]
theorem zero4_get (i : Nat) (h : i < 4) : zero4[i]? = some (.int .u8 0) := by
  rcases (by omega : i = 0 ∨ i = 1 ∨ i = 2 ∨ i = 3) with rfl | rfl | rfl | rfl <;> rfl
theorem part4_block {p B : Nat} {W : World} {t : TypeId} (h : W.heap[B]? = some (.cells zero4 t (0, 0))) : Part4 p 0 B W := by
  refine ⟨(Array.getElem?_eq_some_iff.1 h).1, fun i hi => by omega, fun i _ hi => ?_, fun i => ?_⟩
  · unfold World.cell?; simp only [h]; exact zero4_get i hi
  · unfold World.frozen?; simp [h]
theorem part4_new2 (p : Nat) (w : World) (t : TypeId) : Part4 p 0 (w.heap.size + 1) ((w.alloc (.cells zero4 t)).alloc (.cells zero4 t)) := by
  have h := heap_alloc_new (w.alloc (.cells zero4 t)) (.cells zero4 t)
  rw [World.size_alloc] at h
  exact part4_block h
theorem part4_new1 (p : Nat) (w : World) (t : TypeId) : Part4 p 0 w.heap.size ((w.alloc (.cells zero4 t)).alloc (.cells zero4 t)) :=
  part4_block ((Below.heap_alloc _ _ _ (by simp)).trans (heap_alloc_new w (.cells zero4 t)))
set_option maxHeartbeats 1000000 in
theorem numberOf_any (n : Nat) (w : World) (_hn : n < 18446744073709551616) :
    Calls Tryz.prog 181 #[.int .u64 n] w fun e w' => e = .returned (numV n) ∧ Below w.heap.size w w' := by
  go_enter Tryz.func181, Tryz.ntmps181
  go_wp2
  go_loopw [5] (fun i wr => ∃ k : Nat, k ≤ 4 ∧ i = .int .i64 k ∧ Below w.heap.size w wr ∧ Part4 n k (w.heap.size + 1) wr ∧ Part4 n 0 w.heap.size wr) (fun i _ => 4 - (intOf i).toNat)
  case atStart => exact ⟨0, by omega, rfl, ((Below.refl _ _).alloc (Nat.le_refl _) _).alloc (by simp) _, part4_new2 n w _, part4_new1 n w _⟩
  case round =>
    obtain ⟨k, hk, rfl, hB, hP, hQ⟩ := hrel
    by_cases hlt : k < 4
    · have hck := hP.left k (Nat.le_refl _) hlt
      have hfk := hP.soft k
      have HB := hide hB; have HP := hide hP; have HQ := hide hQ
      clear hB hP hQ
      rcases (by omega : k = 0 ∨ k = 1 ∨ k = 2 ∨ k = 3) with rfl | rfl | rfl | rfl
      all_goals
        go_wp2
        go_roundw
        case rel => exact ⟨_, by omega, by go_num, HB.out.setCell (by simp) _, HP.out.step (by omega) _ (by simp [byt]), HQ.out.far _ _ (by simp)⟩
        case measure => simp [intOf]
    · obtain rfl : k = 4 := by omega
      have c0 := hP.done 0 (by omega); have c1 := hP.done 1 (by omega); have c2 := hP.done 2 (by omega); have c3 := hP.done 3 (by omega)
      have d0 := hQ.left 0 (by omega) (by omega); have d1 := hQ.left 1 (by omega) (by omega); have d2 := hQ.left 2 (by omega) (by omega); have d3 := hQ.left 3 (by omega) (by omega)
      have hsf := hQ.soft
      have HB := hide hB
      clear hB hP hQ
      go_wp2
      refine bodyPost_ret (v := .agg #[.int .u8 ((byt n 0 : Nat) : Int), .int .u8 ((byt n 1 : Nat) : Int), .int .u8 ((byt n 2 : Nat) : Int), .int .u8 ((byt n 3 : Nat) : Int)]) (by simp [results, Tryz.results181, go_sem, d0, d1, d2, d3]) rfl ⟨by simp [numV, byt], ?_⟩
      exact (((HB.out.setCell (Nat.le_refl _) _).setCell (Nat.le_refl _) _).setCell (Nat.le_refl _) _).setCell (Nat.le_refl _) _
theorem or_up (a c m : Nat) (ha : a < 2 ^ m) (hc : c < 256) (hm : m ≤ 24) : bits .or .u64 (a : Int) ((c : Int) * 2 ^ m) = ((a + c * 2 ^ m : Nat) : Int) := by
  have e : ((c : Int) * 2 ^ m) = ((2 ^ m * c : Nat) : Int) := by rw [Nat.mul_comm]; simp
  have h2 : (2 : Nat) ^ m ≤ 2 ^ 24 := Nat.pow_le_pow_right (by decide) hm
  have h3 : 2 ^ m * c < 18446744073709551616 := by
    have : 2 ^ m * c ≤ 2 ^ 24 * 256 := Nat.mul_le_mul h2 (by omega)
    omega
  rw [e, u64_or_nat _ _ (by omega) h3]
  have h := Nat.two_pow_add_eq_or_of_lt (i := m) (b := a) ha c
  rw [Nat.or_comm, ← h, Nat.add_comm, Nat.mul_comm]
def arr4 (c0 c1 c2 c3 : Nat) : Value := .agg #[.int .u8 (c0 : Int), .int .u8 (c1 : Int), .int .u8 (c2 : Int), .int .u8 (c3 : Int)]
set_option maxRecDepth 100000 in
theorem run_ix4 (v0 v1 v2 v3 : Value) (W : World) : (Instr.index 285 (.agg #[v0, v1, v2, v3]) (.int .i64 0)).run Tryz.prog W = .ok v0 W ∧ (Instr.index 285 (.agg #[v0, v1, v2, v3]) (.int .i64 1)).run Tryz.prog W = .ok v1 W ∧ (Instr.index 285 (.agg #[v0, v1, v2, v3]) (.int .i64 2)).run Tryz.prog W = .ok v2 W ∧ (Instr.index 285 (.agg #[v0, v1, v2, v3]) (.int .i64 3)).run Tryz.prog W = .ok v3 W := by
  refine ⟨?_, ?_, ?_, ?_⟩ <;> rfl
set_option maxRecDepth 100000 in
set_option maxHeartbeats 1000000 in
theorem value_any (c0 c1 c2 c3 : Nat) (w : World) (h0 : c0 < 256) (h1 : c1 < 256) (h2 : c2 < 256) (h3 : c3 < 256) :
    Calls Tryz.prog 172 #[arr4 c0 c1 c2 c3] w fun e w' => e = .returned (.int .u64 ((c0 + 256 * c1 + 65536 * c2 + 16777216 * c3 : Nat) : Int)) ∧ Below w.heap.size w w' := by
  have E1 := hide (fun (t : Nat) (h : t < 256) => or_up t c1 8 h h1 (by omega))
  have E2 := hide (fun (t : Nat) (h : t < 65536) => or_up t c2 16 h h2 (by omega))
  have E3 := hide (fun (t : Nat) (h : t < 16777216) => or_up t c3 24 h h3 (by omega))
  have E0 : bits .or .u64 0 (c0 : Int) = (c0 : Int) := by
    have := u64_or_nat 0 c0 (by decide) (by omega)
    rw [Nat.zero_or] at this
    exact this
  obtain ⟨V, hV⟩ : ∃ V, V = c0 + 256 * c1 + 65536 * c2 + 16777216 * c3 := ⟨_, rfl⟩
  rw [← hV]
  have HV := hide hV
  clear hV
  unfold arr4
  go_enter Tryz.func172, Tryz.ntmps172
  go_wp2
  go_loopw [3, 7] (fun x i wr => ∃ k t : Nat, k ≤ 4 ∧ i = .int .i64 k ∧ Below w.heap.size w wr ∧ x = .int .u64 (t : Int) ∧ Hid ((k = 0 → t = 0) ∧ (k = 1 → t = c0) ∧ (k = 2 → t = c0 + 256 * c1) ∧ (k = 3 → t = c0 + 256 * c1 + 65536 * c2) ∧ (k = 4 → t = c0 + 256 * c1 + 65536 * c2 + 16777216 * c3))) (fun _ i _ => 4 - (intOf i).toNat)
  case atStart => exact ⟨0, 0, by omega, rfl, (Below.refl _ _).alloc (Nat.le_refl _) _, rfl, ⟨by simp, by simp, by simp, by simp, by simp⟩⟩
  case round =>
    obtain ⟨k, t, hk, rfl, hB, rfl, HT⟩ := hrel
    obtain ⟨i0, i1, i2, i3⟩ := run_ix4 (.int .u8 (c0 : Int)) (.int .u8 (c1 : Int)) (.int .u8 (c2 : Int)) (.int .u8 (c3 : Int)) wr
    have HB := hide hB
    clear hB
    rcases (by omega : k = 0 ∨ k = 1 ∨ k = 2 ∨ k = 3 ∨ k = 4) with rfl | rfl | rfl | rfl | rfl
    · obtain rfl := HT.out.1 rfl
      go_wp2
      go_roundw
      case rel => exact ⟨1, c0, by omega, by go_num, HB.out, rfl, ⟨by simp, by simp, by simp, by simp, by simp⟩⟩
      case measure => simp [intOf]
    · have ht := HT.out.2.1 rfl
      have e := E1.out t (by omega)
      have HE := hide ht
      clear ht
      go_wp2
      go_roundw
      case rel => exact ⟨2, _, by omega, by go_num, HB.out, congrArg (Value.int .u64) e, ⟨by simp, by simp, fun _ => by have := HE.out; omega, by simp, by simp⟩⟩
      case measure => simp [intOf]
    · have ht := HT.out.2.2.1 rfl
      have e := E2.out t (by omega)
      have HE := hide ht
      clear ht
      go_wp2
      go_roundw
      case rel => exact ⟨3, _, by omega, by go_num, HB.out, congrArg (Value.int .u64) e, ⟨by simp, by simp, by simp, fun _ => by have := HE.out; omega, by simp⟩⟩
      case measure => simp [intOf]
    · have ht := HT.out.2.2.2.1 rfl
      have e := E3.out t (by omega)
      have HE := hide ht
      clear ht
      go_wp2
      go_roundw
      case rel => exact ⟨4, _, by omega, by go_num, HB.out, congrArg (Value.int .u64) e, ⟨by simp, by simp, by simp, by simp, fun _ => by have := HE.out; omega⟩⟩
      case measure => simp [intOf]
    · have HE := hide (HT.out.2.2.2.2 rfl)
      go_wp2
      go_ret
      have e : V = t := by rw [HV.out, HE.out]
      exact ⟨by rw [e]; rfl, HB.out⟩
end Go.Proofs.YtpgkohimcofjnaaGreatDoor
/- package journal: sumOf, Frame. -/
namespace Go.Proofs.YtpgkohimcofjnaaGreatDoor
open Go.RowKit

theorem Part4.below {p k b B : Nat} {W W' : World} (h : Part4 p k b W) (hb : Below B W W') (hB : b < B) : Part4 p k b W' :=
  ⟨Nat.lt_of_lt_of_le h.lt hb.size, fun i hi => (hb.cell (p := ⟨b, i, none⟩) hB).trans (h.done i hi), fun i hi h2 => (hb.cell (p := ⟨b, i, none⟩) hB).trans (h.left i hi h2), fun i => (hb.frozen (p := ⟨b, i, none⟩) hB).trans (h.soft i)⟩
theorem sumOf_any (a : Option Addr) (cap : Nat) (xs : List Nat) (w : World) (hx : ∀ y ∈ xs, y < 256) (h0 : 1 ≤ xs.length) (hl : xs.length < 140737488355328) (hr : RdA w a xs) :
    Calls Tryz.prog 174 #[.slice a xs.length cap] w fun e w' => e = .returned (numV (sumF 2 xs)) ∧ Below w.heap.size w w' := by
  have hs := sum32 xs hx
  have HN := hide (fun W => numberOf_any (sumF 2 xs) W (by omega))
  have HS := hide (fun W (h : Below w.heap.size w W) => sum_two a cap xs W hx hl ((hr.below h).s h0))
  clear hr
  generalize sumF 2 xs = V at *
  go_enter Tryz.func174, Tryz.ntmps174
  go_wp2_with fail
  refine (HS.out _ ((Below.refl _ _).alloc (Nat.le_refl _) _)).mono ?_
  rintro e w1 ⟨rfl, hb⟩
  have HB := hide (((Below.refl _ w).alloc (Nat.le_refl _) (.cells #[.int .u8 0, .int .u8 0, .int .u8 0, .int .u8 0] 285)).trans (hb.mono (by simp)))
  have hz : w.heap.size < w1.heap.size := by have := hb.size; simp at this; omega
  have P1 := hide ((part4_block (p := 0) (heap_alloc_new w (.cells zero4 285))).below hb (by simp))
  have hb1 : Below w1.heap.size w1 (w1.alloc (.cells #[.int .i64 32, .int .u64 0, .int .u64 (V : Int)] 73)) := (Below.refl _ w1).alloc (Nat.le_refl _) _
  have HB1 := hide hb1
  clear hb hb1
  go_wp2_with fail
  refine (HN.out _).mono ?_
  rintro e w2 ⟨rfl, hb2⟩
  have hb3 := HB1.out.trans (hb2.mono (by simp))
  have P2 := P1.out.below hb3 hz
  have d0 := P2.left 0 (by omega) (by omega); have d1 := P2.left 1 (by omega) (by omega); have d2 := P2.left 2 (by omega) (by omega); have d3 := P2.left 3 (by omega) (by omega)
  have hsf := P2.soft
  have HB2 := hide (HB.out.trans (hb3.mono (by omega)))
  clear hb2 hb3 P2
  unfold numV
  go_wp2
  refine bodyPost_ret (v := numV V) (by simp [results, numV, Tryz.results174, go_sem, d0, d1, d2, d3]) rfl ⟨rfl, ?_⟩
  exact (((HB2.out.setCell (Nat.le_refl _) _).setCell (Nat.le_refl _) _).setCell (Nat.le_refl _) _).setCell (Nat.le_refl _) _
end Go.Proofs.YtpgkohimcofjnaaGreatDoor
