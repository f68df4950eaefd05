/- Pieces of the proof: SvBase, SvCrc, SvCrcB, Keep, RawMap. -/
import Derived.Test.YtpgkohimcofjnaaGreatDoorM10
import Derived.Test.YtpgkohimcofjnaaGreatDoorM1
import Derived.Deep.QuietTactic
import Derived.BigQuiet
import Derived.Deep.RegionHeld3
import Derived.RangeFuncNested
import Derived.RangeFuncBound
import Derived.RangeFuncCalls
import Derived.RangeFuncLeaves
import Derived.Shelf.Abstract
import Derived.Shelf.RegionOpen
import Derived.WalkKit
import Derived.OwnWalkIn
import Derived.TacticsInMore
import Derived.LoopNIn
import Derived.LoopIn
import Derived.Laws.Pointers
import Derived.WalkSpells
import Derived.WalkLawsBesides
import Derived.MapFrom
import Derived.Maps.Own
import Derived.Maps.OwnOps
import Derived.Maps.RangeRun
/- What the walks of package sums stand on: bits.Of; bytes that can be read. -/
namespace Go.Proofs.YtpgkohimcofjnaaGreatDoor
open Go.RowKit

theorem of_yes (n hi lo : Int) (w : World) (h0 : 1 ≤ n) (h1 : n ≤ 128) (a0 : 0 ≤ hi) (a1 : hi < 18446744073709551616) (b0 : 0 ≤ lo) (b1 : lo < 18446744073709551616) :
    Calls Tryz.prog 184 #[.int .i64 n, .int .u64 hi, .int .u64 lo] w fun e w' =>
      e = .returned (.tuple #[.agg #[.int .i64 n, .int .u64 (cHi n hi), .int .u64 (cLo n lo)], .int .i64 0]) ∧ Below w.heap.size w w' := by
  have hm := mayBe_yes h0 h1
  go_enter Tryz.func184, Tryz.ntmps184
  go_wp2_with (first
    | (go_at_call 189; refine (widthMayBe_any _ _).mono ?_; rintro e w' ⟨rfl, rfl⟩)
    | (go_at_call 190; refine (cut_any n hi lo _ h0 h1 a0 a1 b0 b1).mono ?_; rintro e w1 ⟨rfl, hb⟩; obtain ⟨hc, hf⟩ := bcell hb; have hz : w.heap.size < w1.heap.size := by have := hb.size; simp at this; omega))
  refine bodyPost_ret (v := .tuple #[.agg #[.int .i64 n, .int .u64 (cHi n hi), .int .u64 (cLo n lo)], .int .i64 0]) (by simp [results, Tryz.results184, go_sem, hc]) rfl ⟨rfl, ?_⟩
  exact (((((Below.refl _ _).alloc (Nat.le_refl _) _).trans (hb.mono (by simp))).setCell (Nat.le_refl _) _).setCell (Nat.le_refl _) _).setCell (Nat.le_refl _) _
/- A small number of 16 or 32 bits stays. -/
theorem of_small (n : Int) (v : Nat) (w : World) (h0 : n = 16 ∨ n = 32) (hv : v < 2 ^ n.toNat) :
    Calls Tryz.prog 184 #[.int .i64 n, .int .u64 0, .int .u64 v] w fun e w' =>
      e = .returned (.tuple #[.agg #[.int .i64 n, .int .u64 0, .int .u64 v], .int .i64 0]) ∧ Below w.heap.size w w' := by
  have hb : v < 4294967296 := by
    rcases h0 with rfl | rfl
    · have : (2 : Nat) ^ (16 : Int).toNat = 65536 := by decide
      omega
    · have : (2 : Nat) ^ (32 : Int).toNat = 4294967296 := by decide
      omega
  have h := of_yes n 0 v w (by omega) (by omega) (by decide) (by decide) (by omega) (by omega)
  have e1 : cHi n 0 = 0 := cHi_le (by omega)
  have e2 : cLo n v = v := by rw [cLo_le (by omega)]; exact Int.emod_eq_of_lt (by omega) (by exact_mod_cast hv)
  rw [e1, e2] at h
  exact h

/- Bytes that can be read. -/
def RdS (W : World) (a : Option Addr) (xs : List Nat) : Prop :=
  (a = none ∧ xs = []) ∨ ∃ p off, a = some ⟨p, off, none⟩ ∧ p < W.heap.size ∧ ∀ i (h : i < xs.length), W.cell? ⟨p, off + i, none⟩ = some (.int .u8 (xs[i] : Nat))
theorem RdS.lt {W : World} {a : Option Addr} {xs : List Nat} (h : RdS W a xs) : ∀ q, a = some q → q.block < W.heap.size := by
  rcases h with ⟨rfl, _⟩ | ⟨p, off, rfl, hp, _⟩
  · intro q e; cases e
  · intro q e; cases e; exact hp
theorem RdS.keep {W W' : World} {a : Option Addr} {xs : List Nat} (h : RdS W a xs) (hs : W.heap.size ≤ W'.heap.size) (hb : ∀ q, a = some q → W'.heap[q.block]? = W.heap[q.block]?) : RdS W' a xs := by
  rcases h with h | ⟨p, off, rfl, hp, hc⟩
  · exact .inl h
  · exact .inr ⟨p, off, rfl, by omega, fun i hi => by exact (World.cell?_of_block (w := W) (a := ⟨p, off + i, none⟩) (hb ⟨p, off, none⟩ rfl)).trans (hc i hi)⟩
theorem RdS.below {W W' : World} {a : Option Addr} {xs : List Nat} (h : RdS W a xs) (hb : Below W.heap.size W W') : RdS W' a xs := h.keep hb.size (fun q e => hb.block _ (h.lt q e))
theorem RdS.some {W : World} {a : Option Addr} {xs : List Nat} (h : RdS W a xs) (hx : 0 < xs.length) : ∃ p off, a = some ⟨p, off, none⟩ ∧ p < W.heap.size ∧ ∀ i (h : i < xs.length), W.cell? ⟨p, off + i, none⟩ = some (.int .u8 (xs[i] : Nat)) := by
  rcases h with ⟨_, rfl⟩ | h
  · simp at hx
  · exact h
theorem RdA.s {W : World} {a : Option Addr} {xs : List Nat} (h : RdA W a xs) (hx : 0 < xs.length) : RdS W a xs := .inr (h.some hx)
end Go.Proofs.YtpgkohimcofjnaaGreatDoor
/- The CRCs: divided, remainders, crc. -/
namespace Go.Proofs.YtpgkohimcofjnaaGreatDoor
open Go.RowKit

theorem div_step (p c : Nat) (hp : p < 4294967296) (hc : c < 4294967296) : bits .xor .u32 ((c : Int) / 2) (IntKind.u32.wrap (bits .and .u32 (c : Int) 1 * (p : Int))) = ((stp p c : Nat) : Int) := by
  have e1 : bits .and .u32 (c : Int) 1 = ((c % 2 : Nat) : Int) := by
    have := u32_and_nat c 1 hc (by decide)
    rw [Nat.and_one_is_mod] at this
    exact this
  have e2 : IntKind.u32.wrap (((c % 2 : Nat) : Int) * (p : Int)) = ((c % 2 * p : Nat) : Int) := by
    have : c % 2 * p < 4294967296 := by rcases Nat.mod_two_eq_zero_or_one c with e | e <;> rw [e] <;> omega
    rw [IntKind.wrap_u32]
    have h2 : ((c % 2 * p : Nat) : Int) = ((c % 2 : Nat) : Int) * (p : Int) := by simp
    omega
  have e3 : ((c : Int) / 2) = ((c / 2 : Nat) : Int) := by omega
  have : c % 2 * p < 4294967296 := by rcases Nat.mod_two_eq_zero_or_one c with e | e <;> rw [e] <;> omega
  rw [e1, e2, e3, u32_xor_nat _ _ (by omega) this]
  rfl
theorem stn32 {p c : Nat} (hp : p < 4294967296) (n : Nat) (hc : c < 4294967296) : stn p n c < 4294967296 := stn_lt (w := 32) hp n hc
set_option maxHeartbeats 400000 in
theorem divided_any (h p : Nat) (w : World) (hh : h < 4294967296) (hp : p < 4294967296) :
    Calls Tryz.prog 195 #[.int .u32 h, .int .u32 p] w fun e w' => e = .returned (.int .u32 ((stn p 4 h : Nat) : Int)) ∧ w' = w := by
  go_enter Tryz.func195, Tryz.ntmps195
  go_wp2
  go_loop [0, 5] (fun x i => ∃ k : Nat, k ≤ 4 ∧ i = .int .i64 k ∧ x = .int .u32 ((stn p k h : Nat) : Int)) (fun _ i => 4 - (intOf i).toNat)
  case atStart => exact ⟨0, by omega, rfl, rfl⟩
  case round =>
    obtain ⟨k, hk, rfl, rfl⟩ := hrel
    have hs := stn32 hp k hh
    have HD := hide (div_step p (stn p k h) hp hs)
    rw [← stn_succ] at HD
    by_cases hlt : k < 4
    · have H2 := hide (stn32 hp (k + 1) hh)
      generalize stn p k h = c at *
      go_wp2
      go_round
      case rel => exact ⟨k + 1, by omega, by go_num, by rw [← HD.out, IntKind.wrap_u32]⟩
      case measure => simp [intOf]; omega
    · obtain rfl : k = 4 := by omega
      clear HD
      go_wp2
      go_ret
      exact ⟨rfl, rfl⟩
theorem crc11_any (h p b : Nat) (w : World) (hh : h < 4294967296) (hp : p < 4294967296) (hb : w.cell? ⟨b, 0, none⟩ = some (.int .u32 p)) :
    Calls Tryz.prog 194 #[.int .u32 h, .pointer (some ⟨b, 0, none⟩)] w fun e w' => e = .returned (.int .u32 ((stn p 4 h : Nat) : Int)) ∧ w' = w := by
  go_enter Tryz.func194, Tryz.ntmps194
  go_wp2_with fail
  refine (divided_any h p _ hh hp).mono ?_
  rintro e w' ⟨rfl, rfl⟩
  go_wp2
  go_ret
  exact ⟨rfl, rfl⟩
/- The sixteen remainders. -/
def remV (p : Nat) : Array Value := #[.int .u32 ((stn p 4 0 : Nat) : Int), .int .u32 ((stn p 4 1 : Nat) : Int), .int .u32 ((stn p 4 2 : Nat) : Int), .int .u32 ((stn p 4 3 : Nat) : Int), .int .u32 ((stn p 4 4 : Nat) : Int), .int .u32 ((stn p 4 5 : Nat) : Int), .int .u32 ((stn p 4 6 : Nat) : Int), .int .u32 ((stn p 4 7 : Nat) : Int), .int .u32 ((stn p 4 8 : Nat) : Int), .int .u32 ((stn p 4 9 : Nat) : Int), .int .u32 ((stn p 4 10 : Nat) : Int), .int .u32 ((stn p 4 11 : Nat) : Int), .int .u32 ((stn p 4 12 : Nat) : Int), .int .u32 ((stn p 4 13 : Nat) : Int), .int .u32 ((stn p 4 14 : Nat) : Int), .int .u32 ((stn p 4 15 : Nat) : Int)]
theorem remV_get (p i : Nat) (h : i < 16) : (remV p)[i]? = some (.int .u32 ((stn p 4 i : Nat) : Int)) := by
  rcases (by omega : i = 0 ∨ i = 1 ∨ i = 2 ∨ i = 3 ∨ i = 4 ∨ i = 5 ∨ i = 6 ∨ i = 7 ∨ i = 8 ∨ i = 9 ∨ i = 10 ∨ i = 11 ∨ i = 12 ∨ i = 13 ∨ i = 14 ∨ i = 15) with rfl | rfl | rfl | rfl | rfl | rfl | rfl | rfl | rfl | rfl | rfl | rfl | rfl | rfl | rfl | rfl <;> rfl
structure Part16 (p k B : Nat) (W : World) : Prop where
  lt : B < W.heap.size
  done : ∀ i, i < k → W.cell? ⟨B, i, none⟩ = some (.int .u32 ((stn p 4 i : Nat) : Int))
  left : ∀ i, k ≤ i → i < 16 → W.cell? ⟨B, i, none⟩ = some (.int .u32 0)
  soft : ∀ i, W.frozen? ⟨B, i, none⟩ = false
theorem at_ne {B i k : Nat} (h : i ≠ k) : (⟨B, i, none⟩ : Addr) ≠ ⟨B, k, none⟩ := fun e => h (by injection e)
theorem Part16.step {p k B : Nat} {W : World} (h : Part16 p k B W) (hk : k < 16) : Part16 p (k + 1) B (W.setCell ⟨B, k, none⟩ (.int .u32 ((stn p 4 k : Nat) : Int))) := by
  refine ⟨by simpa using h.lt, fun i hi => ?_, fun i hi h2 => ?_, fun i => by rw [World.frozen?_setCell]; exact h.soft i⟩
  · by_cases e : i = k
    · subst e; exact World.cell?_setCell_same' _ _ _ (by rw [h.left i (Nat.le_refl _) hk]; rfl)
    · rw [World.cell?_setCell_other _ _ _ _ (at_ne (by omega))]; exact h.done i (by omega)
  · rw [World.cell?_setCell_other _ _ _ _ (at_ne (by omega))]; exact h.left i (by omega) h2
theorem Part16.far {p k B : Nat} {W : World} (h : Part16 p k B W) (q : Addr) (v : Value) (hne : q.block ≠ B) : Part16 p k B (W.setCell q v) :=
  ⟨by simpa using h.lt, fun i hi => (World.cell?_setCell_far _ _ _ _ hne).trans (h.done i hi), fun i hi h2 => (World.cell?_setCell_far _ _ _ _ hne).trans (h.left i hi h2), fun i => by rw [World.frozen?_setCell]; exact h.soft i⟩
def zero16 : Array Value := #[.int .u32 0, .int .u32 0, .int .u32 0, .int .u32 0, .int .u32 0, .int .u32 0, .int .u32 0, .int .u32 0, .int .u32 0, .int .u32 0, .int .u32 0, .int .u32 0, .int .u32 0, .int .u32 0, .int .u32 0, .int .u32 0]
theorem zero16_get (i : Nat) (h : i < 16) : zero16[i]? = some (.int .u32 0) := by
  rcases (by omega : i = 0 ∨ i = 1 ∨ i = 2 ∨ i = 3 ∨ i = 4 ∨ i = 5 ∨ i = 6 ∨ i = 7 ∨ i = 8 ∨ i = 9 ∨ i = 10 ∨ i = 11 ∨ i = 12 ∨ i = 13 ∨ i = 14 ∨ i = 15) with rfl | rfl | rfl | rfl | rfl | rfl | rfl | rfl | rfl | rfl | rfl | rfl | rfl | rfl | rfl | rfl <;> rfl
theorem part_block {p B : Nat} {W : World} {t : TypeId} (h : W.heap[B]? = some (.cells zero16 t (0, 0))) : Part16 p 0 B W := by
  refine ⟨(Array.getElem?_eq_some_iff.1 h).1, fun i hi => by omega, fun i _ hi => ?_, fun i => ?_⟩
  · unfold World.cell?; simp only [h]; exact zero16_get i hi
  · unfold World.frozen?; simp [h]
theorem part_new2 (p : Nat) (w : World) (t : TypeId) : Part16 p 0 (w.heap.size + 1) ((w.alloc (.cells zero16 t)).alloc (.cells zero16 t)) := by
  have h := heap_alloc_new (w.alloc (.cells zero16 t)) (.cells zero16 t)
  rw [World.size_alloc] at h
  exact part_block h
theorem part_new1 (p : Nat) (w : World) (t : TypeId) : Part16 p 0 w.heap.size ((w.alloc (.cells zero16 t)).alloc (.cells zero16 t)) :=
  part_block ((Below.heap_alloc _ _ _ (by simp)).trans (heap_alloc_new w (.cells zero16 t)))
set_option maxHeartbeats 1000000 in
theorem rem_any (p b : Nat) (w : World) (hp : p < 4294967296) (hb : w.cell? ⟨b, 0, none⟩ = some (.int .u32 p)) :
    Calls Tryz.prog 193 #[.func (Fn.func 194) #[] #[.pointer (some ⟨b, 0, none⟩)]] w fun e w' => e = .returned (.agg (remV p)) ∧ Below w.heap.size w w' := by
  have hbl : b < w.heap.size := World.block_lt_of_cell? w _ hb
  go_enter Tryz.func193, Tryz.ntmps193
  go_wp2
  go_loopw [5] (fun i wr => ∃ k : Nat, k ≤ 16 ∧ i = .int .i64 k ∧ Below w.heap.size w wr ∧ Part16 p k (w.heap.size + 1) wr ∧ Part16 p 0 w.heap.size wr) (fun i _ => 16 - (intOf i).toNat)
  case atStart => exact ⟨0, by omega, rfl, ((Below.refl _ _).alloc (Nat.le_refl _) _).alloc (by simp) _, part_new2 p w _, part_new1 p w _⟩
  case round =>
    obtain ⟨k, hk, rfl, hB, hP, hQ⟩ := hrel
    by_cases hlt : k < 16
    · have hbr : wr.cell? ⟨b, 0, none⟩ = some (.int .u32 p) := (hB.cell (p := ⟨b, 0, none⟩) hbl).trans hb
      have hck := hP.left k (Nat.le_refl _) hlt
      have hfk := hP.soft k
      have HB := hide hB; have HP := hide hP; have HQ := hide hQ
      clear hB hP hQ
      go_wp2_with fail
      refine (crc11_any k p b _ (by omega) hp hbr).mono ?_
      rintro e w' ⟨rfl, rfl⟩
      go_wp2
      go_roundw
      case rel => exact ⟨k + 1, by omega, by go_num, HB.out.setCell (by simp) _, HP.out.step hlt, HQ.out.far _ _ (by simp)⟩
      case measure => simp [intOf]; omega
    · obtain rfl : k = 16 := by omega
      have c0 := hP.done 0 (by omega); have c1 := hP.done 1 (by omega); have c2 := hP.done 2 (by omega); have c3 := hP.done 3 (by omega)
      have c4 := hP.done 4 (by omega); have c5 := hP.done 5 (by omega); have c6 := hP.done 6 (by omega); have c7 := hP.done 7 (by omega)
      have c8 := hP.done 8 (by omega); have c9 := hP.done 9 (by omega); have c10 := hP.done 10 (by omega); have c11 := hP.done 11 (by omega)
      have c12 := hP.done 12 (by omega); have c13 := hP.done 13 (by omega); have c14 := hP.done 14 (by omega); have c15 := hP.done 15 (by omega)
      have d0 := hQ.left 0 (by omega) (by omega); have d1 := hQ.left 1 (by omega) (by omega); have d2 := hQ.left 2 (by omega) (by omega); have d3 := hQ.left 3 (by omega) (by omega)
      have d4 := hQ.left 4 (by omega) (by omega); have d5 := hQ.left 5 (by omega) (by omega); have d6 := hQ.left 6 (by omega) (by omega); have d7 := hQ.left 7 (by omega) (by omega)
      have d8 := hQ.left 8 (by omega) (by omega); have d9 := hQ.left 9 (by omega) (by omega); have d10 := hQ.left 10 (by omega) (by omega); have d11 := hQ.left 11 (by omega) (by omega)
      have d12 := hQ.left 12 (by omega) (by omega); have d13 := hQ.left 13 (by omega) (by omega); have d14 := hQ.left 14 (by omega) (by omega); have d15 := hQ.left 15 (by omega) (by omega)
      have hsf := hQ.soft
      have HB := hide hB
      clear hB hP hQ
      go_wp2
      refine bodyPost_ret (v := .agg (remV p)) (by simp [results, remV, Tryz.results193, go_sem, d0, d1, d2, d3, d4, d5, d6, d7, d8, d9, d10, d11, d12, d13, d14, d15]) rfl ⟨rfl, ?_⟩
      exact (((((((((((((((HB.out.setCell (Nat.le_refl _) _).setCell (Nat.le_refl _) _).setCell (Nat.le_refl _) _).setCell (Nat.le_refl _) _).setCell (Nat.le_refl _) _).setCell (Nat.le_refl _) _).setCell (Nat.le_refl _) _).setCell (Nat.le_refl _) _).setCell (Nat.le_refl _) _).setCell (Nat.le_refl _) _).setCell (Nat.le_refl _) _).setCell (Nat.le_refl _) _).setCell (Nat.le_refl _) _).setCell (Nat.le_refl _) _).setCell (Nat.le_refl _) _).setCell (Nat.le_refl _) _
end Go.Proofs.YtpgkohimcofjnaaGreatDoor
/- The CRCs: over bytes. -/
namespace Go.Proofs.YtpgkohimcofjnaaGreatDoor
open Go.RowKit

structure Tab16 (p B : Nat) (W : World) : Prop where
  lt : B < W.heap.size
  row : ∀ i, i < 16 → W.cell? ⟨B, i, none⟩ = some (.int .u32 ((stn p 4 i : Nat) : Int))
theorem tab_block {p B : Nat} {W : World} {t : TypeId} (h : W.heap[B]? = some (.cells (remV p) t (0, 0))) : Tab16 p B W := by
  refine ⟨(Array.getElem?_eq_some_iff.1 h).1, fun i hi => ?_⟩
  unfold World.cell?; simp only [h]; exact remV_get p i hi
theorem half_xor (p c : Nat) (hp : p < 4294967296) (hc : c < 4294967296) : bits .xor .u32 ((c : Int) / 16) ((stn p 4 (c % 16) : Nat) : Int) = ((stn p 4 c : Nat) : Int) := by
  have e : ((c : Int) / 16) = ((c / 16 : Nat) : Int) := by omega
  rw [e, u32_xor_nat _ _ (by omega) (stn32 hp 4 (by omega)), half_step]
theorem crcF32 {p c : Nat} (hp : p < 4294967296) (hc : c < 4294967296) (l : List Nat) (hl : ∀ x ∈ l, x < 256) : crcF p c l < 4294967296 := crcF_lt (w := 32) hp (by decide) l hl hc
theorem take_get (xs : List Nat) (k : Nat) (h : k < xs.length) : xs.take (k + 1) = xs.take k ++ [xs[k]] := List.take_succ_eq_append_getElem h
theorem crc_round (p c : Nat) (xs : List Nat) (k : Nat) (h : k < xs.length) : crcF p c (xs.take (k + 1)) = stn p 4 (stn p 4 (crcF p c (xs.take k) ^^^ xs[k])) := by
  rw [take_get xs k h, crcF_snoc, ← stn_add]
set_option maxHeartbeats 2000000 in
theorem crc1_any (p c t b1 b2 b3 : Nat) (a : Option Addr) (cap : Nat) (xs : List Nat) (w : World) (hp : p < 4294967296) (hc : c < 4294967296) (ht : t < 4294967296)
    (h1 : w.cell? ⟨b1, 0, none⟩ = some (.int .u32 p)) (h2 : w.cell? ⟨b2, 0, none⟩ = some (.int .u32 c)) (h3 : w.cell? ⟨b3, 0, none⟩ = some (.int .u32 t))
    (hx : ∀ y ∈ xs, y < 256) (hl : xs.length < 140737488355328) (hr : RdS w a xs) :
    Calls Tryz.prog 192 #[.slice a xs.length cap, .pointer (some ⟨b1, 0, none⟩), .pointer (some ⟨b2, 0, none⟩), .pointer (some ⟨b3, 0, none⟩)] w fun e w' => e = .returned (.int .u32 ((crcF p c xs ^^^ t : Nat) : Int)) ∧ Below w.heap.size w w' := by
  have l1 : b1 < w.heap.size := World.block_lt_of_cell? w _ h1
  have l2 : b2 < w.heap.size := World.block_lt_of_cell? w _ h2
  have l3 : b3 < w.heap.size := World.block_lt_of_cell? w _ h3
  have HR := hide hr
  clear hr
  go_enter Tryz.func192, Tryz.ntmps192
  go_wp2_with fail
  refine (rem_any p b1 _ hp h1).mono ?_
  rintro e w1 ⟨rfl, hb⟩
  have d2 : w1.cell? ⟨b2, 0, none⟩ = some (.int .u32 c) := (hb.cell (p := ⟨b2, 0, none⟩) l2).trans h2
  have d3 : w1.cell? ⟨b3, 0, none⟩ = some (.int .u32 t) := (hb.cell (p := ⟨b3, 0, none⟩) l3).trans h3
  have HB := hide hb
  have hz := hb.size
  have l2' : b2 < w1.heap.size := by omega
  have l3' : b3 < w1.heap.size := by omega
  clear hb
  have HT := hide (tab_block (p := p) (heap_alloc_new w1 (.cells (remV p) 305)))
  have HBW := hide (HB.out.alloc hz (.cells (remV p) 305))
  have e3 : (w1.alloc (.cells (remV p) 305)).cell? ⟨b3, 0, none⟩ = some (.int .u32 t) := (((Below.refl w1.heap.size w1).alloc (Nat.le_refl _) _).cell (p := ⟨b3, 0, none⟩) l3').trans d3
  have HE3 := hide e3
  clear e3
  have HRW := hide (HR.out.below HBW.out)
  unfold remV at HT HBW HE3 HRW ⊢
  go_wp2
  generalize w1.alloc (.cells #[.int .u32 ((stn p 4 0 : Nat) : Int), .int .u32 ((stn p 4 1 : Nat) : Int), .int .u32 ((stn p 4 2 : Nat) : Int), .int .u32 ((stn p 4 3 : Nat) : Int), .int .u32 ((stn p 4 4 : Nat) : Int), .int .u32 ((stn p 4 5 : Nat) : Int), .int .u32 ((stn p 4 6 : Nat) : Int), .int .u32 ((stn p 4 7 : Nat) : Int), .int .u32 ((stn p 4 8 : Nat) : Int), .int .u32 ((stn p 4 9 : Nat) : Int), .int .u32 ((stn p 4 10 : Nat) : Int), .int .u32 ((stn p 4 11 : Nat) : Int), .int .u32 ((stn p 4 12 : Nat) : Int), .int .u32 ((stn p 4 13 : Nat) : Int), .int .u32 ((stn p 4 14 : Nat) : Int), .int .u32 ((stn p 4 15 : Nat) : Int)] 305) = W at *
  generalize w1.heap.size = B at *
  clear d2 d3 h1 h2 h3 l1 l2 l3 l2' l3' hz HR
  go_loop [7, 15] (fun s i => ∃ k : Nat, k ≤ xs.length ∧ i = .int .i64 k ∧ s = .int .u32 ((crcF p c (xs.take k) : Nat) : Int)) (fun _ i => xs.length - (intOf i).toNat)
  case atStart => exact ⟨0, by omega, rfl, rfl⟩
  case round =>
    obtain ⟨k, hk, rfl, rfl⟩ := hrel
    have hs : crcF p c (xs.take k) < 4294967296 := crcF32 hp hc _ (fun y hy => hx y (List.mem_of_mem_take hy))
    by_cases hlt : k < xs.length
    · obtain ⟨q, off, rfl, _, hcell⟩ := HRW.out.some (by omega)
      have hck := hcell k hlt
      have hxk : xs[k] < 256 := hx _ (List.getElem_mem hlt)
      have HN := hide (crc_round p c xs k hlt)
      have hlI : (k : Int) < (xs.length : Int) := by omega
      clear hcell HRW
      generalize crcF p c (xs.take k) = s at *
      generalize xs[k] = x at *
      obtain ⟨d, hd⟩ : ∃ d, d = s ^^^ x := ⟨_, rfl⟩
      have hd4 : d < 4294967296 := by rw [hd]; exact Nat.xor_lt_two_pow (n := 32) hs (by omega)
      have E1 : bits .xor .u32 (s : Int) (x : Int) = (d : Int) := by rw [hd]; exact u32_xor_nat _ _ hs (by omega)
      rw [← hd] at HN
      clear hd
      have f1 := HT.out.row (d % 16) (by omega)
      have E2 := half_xor p d hp hd4
      obtain ⟨m, hm⟩ : ∃ m, m = d % 16 := ⟨_, rfl⟩
      rw [← hm] at f1 E2
      have hm16 : m < 16 := by omega
      have hmI : (d : Int) % 16 = (m : Int) := by omega
      clear hm
      have hd5 : stn p 4 d < 4294967296 := stn32 hp 4 hd4
      generalize stn p 4 d = d2 at *
      generalize stn p 4 m = r1 at *
      have f2 := HT.out.row (d2 % 16) (by omega)
      have E3 := half_xor p d2 hp hd5
      obtain ⟨m2, hm2⟩ : ∃ m, m = d2 % 16 := ⟨_, rfl⟩
      rw [← hm2] at f2 E3
      have hm216 : m2 < 16 := by omega
      have hm2I : (d2 : Int) % 16 = (m2 : Int) := by omega
      clear hm2
      generalize stn p 4 d2 = d3 at *
      generalize stn p 4 m2 = r2 at *
      go_wp2
      go_round
      case rel => exact ⟨k + 1, by omega, by go_num, by rw [HN.out]⟩
      case measure => simp [intOf]; omega
    · obtain rfl : k = xs.length := by omega
      have e3 := HE3.out
      clear HRW HT
      have E := hide (u32_xor_nat _ _ hs ht)
      rw [List.take_length] at *
      generalize hsx : crcF p c xs = s at *
      have HSX := hide hsx
      clear hsx
      go_wp2
      go_ret
      exact ⟨ret_int (by rw [HSX.out]; exact E.out), HBW.out⟩
end Go.Proofs.YtpgkohimcofjnaaGreatDoor
/- Cells of one's own, and what a loop over a function keeps: no program in sight. -/
namespace Go.Proofs.YtpgkohimcofjnaaGreatDoor
open Go.RowKit Go.Shelf

def KeepBut (E : Nat → Prop) (n₀ : Nat) (W W' : World) : Prop := W.heap.size ≤ W'.heap.size ∧ ∀ b, b < n₀ → ¬ E b → W'.heap[b]? = W.heap[b]?
theorem KeepBut.refl {E : Nat → Prop} {n₀ : Nat} {W : World} : KeepBut E n₀ W W := ⟨Nat.le_refl _, fun _ _ _ => rfl⟩
theorem KeepBut.t {E : Nat → Prop} {n₀ : Nat} {A B C : World} (h : KeepBut E n₀ A B) (k : KeepBut E n₀ B C) : KeepBut E n₀ A C := ⟨Nat.le_trans h.1 k.1, fun b hb he => (k.2 b hb he).trans (h.2 b hb he)⟩
theorem KeepBut.b {E : Nat → Prop} {n₀ : Nat} {w : World} (hn : n₀ ≤ w.heap.size) (W : World) (l : Nat) (o o' : Obj) (hl : w.heap.size ≤ l) (_ : W.heap[l]? = some o) (_ : o.isCells = false) (_ : o.isWalk = false) : KeepBut E n₀ W (W.putObj l o') :=
  ⟨by simp, fun b hb _ => World.putObj_heap_other (by omega)⟩
theorem KeepBut.ofBelow {E : Nat → Prop} {n₀ : Nat} {A B : World} (h : Below A.heap.size A B) (hn : n₀ ≤ A.heap.size) : KeepBut E n₀ A B := ⟨h.size, fun b hb _ => h.block b (by omega)⟩
theorem KeepBut.drew {E : Nat → Prop} {n₀ : Nat} {A B : World} (h : KeepBut E n₀ A B) : KeepBut E n₀ A B.drew := h
theorem KeepBut.cell {E : Nat → Prop} {n₀ : Nat} {A B : World} (h : KeepBut E n₀ A B) {p : Addr} (hp : p.block < n₀) (he : ¬ E p.block) : B.cell? p = A.cell? p := World.cell?_of_block (w := A) (h.2 p.block hp he)
def LC (W : World) (b : Nat) (v : Value) : Prop := W.cell? ⟨b, 0, none⟩ = some v ∧ W.frozen? ⟨b, 0, none⟩ = false
theorem LC.box {W : World} {b : Nat} {v : Value} {t : TypeId} (h : W.heap[b]? = some (.cells #[v] t (0, 0))) : LC W b v := by
  constructor <;> simp [World.cell?, World.frozen?, h]
theorem LC.new (W : World) (v : Value) (t : TypeId) : LC (W.alloc (.cells #[v] t)) W.heap.size v := LC.box (World.alloc_heap_new W _)
theorem LC.kept {W W' : World} {row : Option Nat} {b : Nat} {v : Value} (h : LC W b v) (hg : W.grownBy W' row) (hr : ∀ r, row = some r → ∃ o : Obj, W.heap[r]? = some o ∧ o.isCells = false) : LC W' b v :=
  ⟨cell_kept h.1 hg hr, (frozen_kept h.1 hg hr).trans h.2⟩
theorem LC.alloc {W : World} {b : Nat} {v : Value} (o : Obj) (h : LC W b v) : LC (W.alloc o) b v := h.kept (World.grownBy_alloc W o none) (fun r e => by cases e)
theorem LC.drew {W : World} {b : Nat} {v : Value} (h : LC W b v) : LC W.drew b v := h
theorem LC.set {W : World} {b : Nat} {v : Value} (h : LC W b v) (u : Value) : LC (W.setCell ⟨b, 0, none⟩ u) b u := ⟨World.cell?_setCell_same' _ _ _ (by rw [h.1]; rfl), by rw [World.frozen?_setCell]; exact h.2⟩
theorem LC.far {W : World} {b : Nat} {v : Value} (h : LC W b v) (p : Addr) (u : Value) (hne : p.block ≠ b) : LC (W.setCell p u) b v := ⟨(World.cell?_setCell_far _ _ _ _ hne).trans h.1, by rw [World.frozen?_setCell]; exact h.2⟩
theorem LC.below {W W' : World} {b B : Nat} {v : Value} (h : LC W b v) (hb : Below B W W') (hl : b < B) : LC W' b v := ⟨(hb.cell (p := ⟨b, 0, none⟩) hl).trans h.1, (hb.frozen (p := ⟨b, 0, none⟩) hl).trans h.2⟩
theorem LC.lt {W : World} {b : Nat} {v : Value} (h : LC W b v) : b < W.heap.size := World.block_lt_of_cell? W _ h.1
theorem LC.own (b : Nat) {β : Type} (f : β → Value) : Own (fun (s : β) W => LC W b (f s)) := fun _ _ _ _ hs hg hr => hs.kept hg hr
theorem LC.cast {W : World} {b : Nat} {v u : Value} (h : LC W b v) (e : v = u) : LC W b u := e ▸ h
theorem KeepBut.setCell {E : Nat → Prop} {n₀ : Nat} {A B : World} (h : KeepBut E n₀ A B) (p : Addr) (v : Value) (he : E p.block) : KeepBut E n₀ A (B.setCell p v) :=
  ⟨by simpa using h.1, fun b hb hne => by rw [Below.heap_setCell _ _ _ _ (fun e => hne (by rw [e]; exact he))]; exact h.2 b hb hne⟩
theorem KeepBut.alloc {E : Nat → Prop} {n₀ : Nat} {A B : World} (h : KeepBut E n₀ A B) (hn : n₀ ≤ B.heap.size) (o : Obj) : KeepBut E n₀ A (B.alloc o) :=
  ⟨by have := h.1; simp; omega, fun b hb hne => (Below.heap_alloc _ _ _ (by omega)).trans (h.2 b hb hne)⟩
end Go.Proofs.YtpgkohimcofjnaaGreatDoor
/- Maps as they lie in memory, whatever their elements: the insert of a new key, the look-up, the range. No program in sight. -/
namespace Go.Proofs.YtpgkohimcofjnaaGreatDoor
open Go.RowKit Go.MapKept

theorem raw_insert {P : Program} {W : World} {B n : Nat} {es : Array MapEntry} {t kt et : TypeId} {d : TypeDesc} (hb : W.heap[B]? = some (.map es n)) (ht : P.underlying t = some (.map kt et)) (hkt : P.underlying kt = some d)
    (k v : Value) (hk : IsKey d k) (hks : ∀ x ∈ es.toList, IsKey d x.key ∧ x.key ≠ k) :
    ∃ W', (Instr.mapUpdate t (.map (some B)) k v).run P W = .ok () W' ∧ W'.heap[B]? = some (.map (es.push { key := k, val := v, born := n }) (n + 1)) ∧ W.grownBy W' (some B) := by
  rcases findNow_spec hk es.toList 0 (fun x hx => (hks x hx).1) with ⟨h1, _⟩ | ⟨j, e, h1, h2, h3⟩
  · have hrun : (Instr.mapUpdate t (.map (some B)) k v).run P W = .ok () { W with heap := W.heap.setIfInBounds B (.map (es.push { key := k, val := v, born := n }) (n + 1)) } := by
      simp [Instr.mapUpdate, run_underlying ht, MapKept.run_getObj_map hb, run_checkKey hkt hk, run_findKey hkt h1, MapKept.run_setObj_map _ hb, Result.andThen]
    have hh := heap_set (o' := Obj.map (es.push { key := k, val := v, born := n }) (n + 1)) hb
    exact ⟨_, hrun, hh.1, ⟨rfl, rfl, rfl, by simp, fun i _ hi => hh.2 i (fun e => hi (by rw [e]))⟩⟩
  · exact absurd h3 (hks e (List.mem_of_getElem? h2)).2
theorem wpList_insert_raw {P : Program} (w : World) {ops : Array Oper} {rest : List Oper} {o : Oper} {a : Act} {Q : Exit → Act → World → Prop}
    (hg : o.guard = none) (m x v : Operand) (t : TypeId) (hop : o.op = Op.insert t m x v) (kt et : TypeId) (d : TypeDesc) (ht : P.underlying t = some (.map kt et)) (hkt : P.underlying kt = some d)
    (B n : Nat) (es : Array MapEntry) (hm : a.eval m = .map (some B)) (k : Value) (hx : a.eval x = k) (val : Value) (hv : a.eval v = val) (hb : w.heap[B]? = some (.map es n)) (hk : IsKey d k) (hks : ∀ x ∈ es.toList, IsKey d x.key ∧ x.key ≠ k)
    (hK : ∀ w', w'.heap[B]? = some (.map (es.push { key := k, val := val, born := n }) (n + 1)) → w.grownBy w' (some B) → wpList P ops Q rest (a.put o.dst undef) w') :
    wpList P ops Q (o :: rest) a w := by
  refine wpList_plain hg fun K' hK' => ?_
  obtain ⟨w', hrun, r1, r2⟩ := raw_insert hb ht hkt k val hk hks
  unfold Oper.wp
  simp [execOp, hop, hm, hx, hv, hrun, Result.andThen]
  exact hK' _ _ (hK w' r1 r2)
/- A look-up: the key is there, or it is not. -/
theorem raw_look {P : Program} {W : World} {B n : Nat} {es : Array MapEntry} {t kt et : TypeId} {d : TypeDesc} (hb : W.heap[B]? = some (.map es n)) (ht : P.underlying t = some (.map kt et)) (hkt : P.underlying kt = some d)
    (k : Value) (hk : IsKey d k) (hks : ∀ x ∈ es.toList, IsKey d x.key) (zv : Value) (hz : (zeroValue et).run P W = .ok zv W) :
    (∃ e ∈ es.toList, e.key = k ∧ (Instr.lookup t (.map (some B)) k true).run P W = .ok (.tuple #[e.val, .bool true]) W ∧ (Instr.lookup t (.map (some B)) k false).run P W = .ok e.val W) ∨
    ((∀ e ∈ es.toList, e.key ≠ k) ∧ (Instr.lookup t (.map (some B)) k true).run P W = .ok (.tuple #[zv, .bool false]) W ∧ (Instr.lookup t (.map (some B)) k false).run P W = .ok zv W) := by
  rcases findNow_spec hk es.toList 0 hks with ⟨h1, h2⟩ | ⟨j, e, h1, h2, h3⟩
  · refine .inr ⟨h2, ?_, ?_⟩
    · simp [Instr.lookup, run_underlying ht, MapKept.run_getObj_map hb, run_checkKey hkt hk, run_findKey hkt h1, hz, Result.andThen]
    · simp [Instr.lookup, run_underlying ht, MapKept.run_getObj_map hb, run_checkKey hkt hk, run_findKey hkt h1, hz, Result.andThen]
  · refine .inl ⟨e, List.mem_of_getElem? h2, h3, ?_, ?_⟩
    · simp [Instr.lookup, run_underlying ht, MapKept.run_getObj_map hb, run_checkKey hkt hk, run_findKey hkt h1, Result.andThen]
    · simp [Instr.lookup, run_underlying ht, MapKept.run_getObj_map hb, run_checkKey hkt hk, run_findKey hkt h1, Result.andThen]
end Go.Proofs.YtpgkohimcofjnaaGreatDoor
