/- The CRCs: over bytes. -/
import Derived.Test.YtannocdcohofbaaSvCrc
namespace Go.Proofs.Ytannocdcohofbaa
open Go.RowKit

structure Tab16 (p B : Nat) (W : World) : Prop where
  lt : B < W.heap.size
  row : ∀ i, i < 16 → W.cell? ⟨B, i, none⟩ = some (.int .u32 ((stn p 4 i : Nat) : Int))
theorem tab_block {p B : Nat} {W : World} {t : TypeId} (h : W.heap[B]? = some (.cells (remV p) t (0, 0))) : Tab16 p B W := by
  refine ⟨(Array.getElem?_eq_some_iff.1 h).1, fun i hi => ?_⟩
  unfold World.cell?; simp only [h]; exact remV_get p i hi
theorem half_xor (p c : Nat) (hp : p < 4294967296) (hc : c < 4294967296) : bits .xor .u32 ((c : Int) / 16) ((stn p 4 (c % 16) : Nat) : Int) = ((stn p 4 c : Nat) : Int) := by
  have e : ((c : Int) / 16) = ((c / 16 : Nat) : Int) := by omega
  rw [e, u32_xor_nat _ _ (by omega) (stn32 hp 4 (by omega)), half_step]
theorem crcF32 {p c : Nat} (hp : p < 4294967296) (hc : c < 4294967296) (l : List Nat) (hl : ∀ x ∈ l, x < 256) : crcF p c l < 4294967296 := crcF_lt (w := 32) hp (by decide) l hl hc
theorem take_get (xs : List Nat) (k : Nat) (h : k < xs.length) : xs.take (k + 1) = xs.take k ++ [xs[k]] := List.take_succ_eq_append_getElem h
theorem crc_round (p c : Nat) (xs : List Nat) (k : Nat) (h : k < xs.length) : crcF p c (xs.take (k + 1)) = stn p 4 (stn p 4 (crcF p c (xs.take k) ^^^ xs[k])) := by
  rw [take_get xs k h, crcF_snoc, ← stn_add]
set_option maxHeartbeats 2000000 in
theorem crc1_any (p c t b1 b2 b3 : Nat) (a : Option Addr) (cap : Nat) (xs : List Nat) (w : World) (hp : p < 4294967296) (hc : c < 4294967296) (ht : t < 4294967296)
    (h1 : w.cell? ⟨b1, 0, none⟩ = some (.int .u32 p)) (h2 : w.cell? ⟨b2, 0, none⟩ = some (.int .u32 c)) (h3 : w.cell? ⟨b3, 0, none⟩ = some (.int .u32 t))
    (hx : ∀ y ∈ xs, y < 256) (hl : xs.length < 140737488355328) (hr : RdS w a xs) :
    Calls Try.prog 65 #[.slice a xs.length cap, .pointer (some ⟨b1, 0, none⟩), .pointer (some ⟨b2, 0, none⟩), .pointer (some ⟨b3, 0, none⟩)] w fun e w' => e = .returned (.int .u32 ((crcF p c xs ^^^ t : Nat) : Int)) ∧ Below w.heap.size w w' := by
  have l1 : b1 < w.heap.size := World.block_lt_of_cell? w _ h1
  have l2 : b2 < w.heap.size := World.block_lt_of_cell? w _ h2
  have l3 : b3 < w.heap.size := World.block_lt_of_cell? w _ h3
  have HR := hide hr
  clear hr
  go_enter Try.func65, Try.ntmps65
  go_wp2_with fail
  refine (rem_any p b1 _ hp h1).mono ?_
  rintro e w1 ⟨rfl, hb⟩
  have d2 : w1.cell? ⟨b2, 0, none⟩ = some (.int .u32 c) := (hb.cell (p := ⟨b2, 0, none⟩) l2).trans h2
  have d3 : w1.cell? ⟨b3, 0, none⟩ = some (.int .u32 t) := (hb.cell (p := ⟨b3, 0, none⟩) l3).trans h3
  have HB := hide hb
  have hz := hb.size
  have l2' : b2 < w1.heap.size := by omega
  have l3' : b3 < w1.heap.size := by omega
  clear hb
  have HT := hide (tab_block (p := p) (heap_alloc_new w1 (.cells (remV p) 105)))
  have HBW := hide (HB.out.alloc hz (.cells (remV p) 105))
  have e3 : (w1.alloc (.cells (remV p) 105)).cell? ⟨b3, 0, none⟩ = some (.int .u32 t) := (((Below.refl w1.heap.size w1).alloc (Nat.le_refl _) _).cell (p := ⟨b3, 0, none⟩) l3').trans d3
  have HE3 := hide e3
  clear e3
  have HRW := hide (HR.out.below HBW.out)
  unfold remV at HT HBW HE3 HRW ⊢
  go_wp2
  generalize w1.alloc (.cells #[.int .u32 ((stn p 4 0 : Nat) : Int), .int .u32 ((stn p 4 1 : Nat) : Int), .int .u32 ((stn p 4 2 : Nat) : Int), .int .u32 ((stn p 4 3 : Nat) : Int), .int .u32 ((stn p 4 4 : Nat) : Int), .int .u32 ((stn p 4 5 : Nat) : Int), .int .u32 ((stn p 4 6 : Nat) : Int), .int .u32 ((stn p 4 7 : Nat) : Int), .int .u32 ((stn p 4 8 : Nat) : Int), .int .u32 ((stn p 4 9 : Nat) : Int), .int .u32 ((stn p 4 10 : Nat) : Int), .int .u32 ((stn p 4 11 : Nat) : Int), .int .u32 ((stn p 4 12 : Nat) : Int), .int .u32 ((stn p 4 13 : Nat) : Int), .int .u32 ((stn p 4 14 : Nat) : Int), .int .u32 ((stn p 4 15 : Nat) : Int)] 105) = W at *
  generalize w1.heap.size = B at *
  clear d2 d3 h1 h2 h3 l1 l2 l3 l2' l3' hz HR
  go_loop [7, 15] (fun s i => ∃ k : Nat, k ≤ xs.length ∧ i = .int .i64 k ∧ s = .int .u32 ((crcF p c (xs.take k) : Nat) : Int)) (fun _ i => xs.length - (intOf i).toNat)
  case atStart => exact ⟨0, by omega, rfl, rfl⟩
  case round =>
    obtain ⟨k, hk, rfl, rfl⟩ := hrel
    have hs : crcF p c (xs.take k) < 4294967296 := crcF32 hp hc _ (fun y hy => hx y (List.mem_of_mem_take hy))
    by_cases hlt : k < xs.length
    · obtain ⟨q, off, rfl, _, hcell⟩ := HRW.out.some (by omega)
      have hck := hcell k hlt
      have hxk : xs[k] < 256 := hx _ (List.getElem_mem hlt)
      have HN := hide (crc_round p c xs k hlt)
      have hlI : (k : Int) < (xs.length : Int) := by omega
      clear hcell HRW
      generalize crcF p c (xs.take k) = s at *
      generalize xs[k] = x at *
      obtain ⟨d, hd⟩ : ∃ d, d = s ^^^ x := ⟨_, rfl⟩
      have hd4 : d < 4294967296 := by rw [hd]; exact Nat.xor_lt_two_pow (n := 32) hs (by omega)
      have E1 : bits .xor .u32 (s : Int) (x : Int) = (d : Int) := by rw [hd]; exact u32_xor_nat _ _ hs (by omega)
      rw [← hd] at HN
      clear hd
      have f1 := HT.out.row (d % 16) (by omega)
      have E2 := half_xor p d hp hd4
      obtain ⟨m, hm⟩ : ∃ m, m = d % 16 := ⟨_, rfl⟩
      rw [← hm] at f1 E2
      have hm16 : m < 16 := by omega
      have hmI : (d : Int) % 16 = (m : Int) := by omega
      clear hm
      have hd5 : stn p 4 d < 4294967296 := stn32 hp 4 hd4
      generalize stn p 4 d = d2 at *
      generalize stn p 4 m = r1 at *
      have f2 := HT.out.row (d2 % 16) (by omega)
      have E3 := half_xor p d2 hp hd5
      obtain ⟨m2, hm2⟩ : ∃ m, m = d2 % 16 := ⟨_, rfl⟩
      rw [← hm2] at f2 E3
      have hm216 : m2 < 16 := by omega
      have hm2I : (d2 : Int) % 16 = (m2 : Int) := by omega
      clear hm2
      generalize stn p 4 d2 = d3 at *
      generalize stn p 4 m2 = r2 at *
      go_wp2
      go_round
      case rel => exact ⟨k + 1, by omega, by go_num, by rw [HN.out]⟩
      case measure => simp [intOf]; omega
    · obtain rfl : k = xs.length := by omega
      have e3 := HE3.out
      clear HRW HT
      have E := hide (u32_xor_nat _ _ hs ht)
      rw [List.take_length] at *
      generalize hsx : crcF p c xs = s at *
      have HSX := hide hsx
      clear hsx
      go_wp2
      go_ret
      exact ⟨ret_int (by rw [HSX.out]; exact E.out), HBW.out⟩
end Go.Proofs.Ytannocdcohofbaa
