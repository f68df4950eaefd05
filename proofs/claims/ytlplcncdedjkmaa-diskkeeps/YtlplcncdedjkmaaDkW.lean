/- pointsmanlaw04.DiskFills, walked. -/
import Derived.Test.YtlplcncdedjkmaaDkL
namespace Go.Proofs.Ytlplcncdedjkmaa
open Go.RowKit

/- Whole numbers that can be read. -/
def RdZ (k : IntKind) (W : World) (a : Option Addr) (zs : List Int) : Prop :=
  (a = none ∧ zs = []) ∨ ∃ p off, a = some ⟨p, off, none⟩ ∧ p < W.heap.size ∧ ∀ i (h : i < zs.length), W.cell? ⟨p, off + i, none⟩ = some (.int k zs[i])
theorem RdZ.below {k : IntKind} {W W' : World} {a : Option Addr} {zs : List Int} (h : RdZ k W a zs) (hb : Below W.heap.size W W') : RdZ k W' a zs := by
  rcases h with h | ⟨p, off, rfl, hp, hc⟩
  · exact .inl h
  · exact .inr ⟨p, off, rfl, Nat.lt_of_lt_of_le hp hb.size, fun i hi => (hb.cell (p := ⟨p, off + i, none⟩) hp).trans (hc i hi)⟩
theorem RdZ.some {k : IntKind} {W : World} {a : Option Addr} {zs : List Int} (h : RdZ k W a zs) (hx : 0 < zs.length) : ∃ p off, a = some ⟨p, off, none⟩ ∧ p < W.heap.size ∧ ∀ i (h : i < zs.length), W.cell? ⟨p, off + i, none⟩ = some (.int k zs[i]) := by
  rcases h with ⟨_, rfl⟩ | h
  · simp at hx
  · exact h
theorem made8 (n : Nat) : (madeCells (Value.int .u8 0).cells (n * 1)).toList = u8s (List.replicate n 0) := by
  rw [Nat.mul_one]
  show (madeCells #[.int .u8 0] n).toList = _
  rw [toList_madeCells_one]
  simp [u8s]
theorem rem3k (z : Int) (h0 : 0 ≤ z) : ∃ n : Nat, n < 3000 ∧ z.tmod 3000 = n := by
  refine ⟨(z.tmod 3000).toNat, ?_, ?_⟩
  · rw [Int.tmod_eq_emod_of_nonneg h0]; omega
  · rw [Int.tmod_eq_emod_of_nonneg h0]; omega
theorem below_none {B : Nat} {w a b : World} (h : Below B w a) (g : a.grownBy b none) (hB : B ≤ a.heap.size) : Below B w b := h.grown g hB (fun k e => by cases e)
/- A disk of noughts. -/
structure Fi (w W : World) (g r n : Nat) (v : Value) : Prop where
  bl : Below w.heap.size w W
  dk : Dk W w.heap.size g v (1 + r) (List.replicate n 0) false .nilFunc none
theorem bytes_fi {w W : World} {g r n : Nat} {v : Value} (h : Fi w W g r n v) : Calls Try.prog 13 #[.pointer (some ⟨g, 0, none⟩)] W fun e w' => ∃ a c, e = .returned (.slice a n c) ∧ Below w.heap.size w w' := by
  refine (bytes_yes h.dk).mono ?_
  rintro e w' ⟨u, rfl, ho, hb⟩
  obtain ⟨a, c, rfl, _⟩ := ho.shape
  exact ⟨a, c, by rw [List.length_replicate], h.bl.trans (hb.mono h.bl.size)⟩
set_option maxRecDepth 100000 in
set_option maxHeartbeats 1000000 in
theorem fills_yes (r : Nat) (hr : r < 65536) (a : Option Addr) (cap : Nat) (zs : List Int) (w : World) (hz : ∀ z ∈ zs, 0 ≤ z ∧ z < 65536) (hd : RdZ .u16 w a zs) :
    Calls Try.prog 4 #[.int .u16 r, .slice a zs.length cap] w fun e w' => e = .returned (.bool true) ∧ Below w.heap.size w w' := by
  have HN := hide (new_yes (1 + r) w (by omega) (by omega))
  have HD := hide hd
  have HZ := hide hz
  obtain ⟨i0, hi0, hz0, hz1, hz2⟩ := info_parts Try.info8
  have w1 : IntKind.i64.wrap (1 + (r : Int)) = ((1 + r : Nat) : Int) := by rw [IntKind.wrap_i64]; omega
  have w0 : IntKind.i64.wrap (r : Int) = (r : Int) := by rw [IntKind.wrap_i64]; omega
  clear hd hz
  go_enter Try.func4, Try.ntmps4
  go_wp2_with fail
  refine HN.out.mono ?_
  rintro e w2 ⟨rfl, hd, hb⟩
  have F1 : Hid (Fi w w2 w.heap.size r 0 (.slice none 0 0)) := ⟨hb, hd⟩
  clear hd hb HN
  go_wp2_with fail
  refine (alive_yes _).mono ?_
  rintro e w3 ⟨rfl, hb⟩
  have F2 : Hid (Fi w w3 w.heap.size r 0 (.slice none 0 0)) := ⟨F1.out.bl.trans (hb.mono F1.out.bl.size), F1.out.dk.next hb⟩
  clear hb F1
  go_wp2
  go_loopw [7, 8] (fun u i wr => ∃ (k n : Nat) (v : Value), k ≤ zs.length ∧ i = .int .i64 k ∧ u = .int .i64 n ∧ Fi w wr w.heap.size r n v) (fun _ i _ => zs.length - (intOf i).toNat)
  case atStart => exact ⟨0, 0, _, by omega, rfl, rfl, F2.out⟩
  case round =>
    obtain ⟨k, n, v, hk, rfl, rfl, hf⟩ := hrel
    have F3 := hide hf
    clear hf F2
    by_cases hlt : k < zs.length
    · by_cases hlt2 : k < 200
      · obtain ⟨p, off, rfl, _, hc⟩ := (HD.out.below F3.out.bl).some (by omega)
        have hck := hc k hlt
        obtain ⟨m, hm, hmz⟩ := rem3k zs[k] (HZ.out _ (List.getElem_mem hlt)).1
        have hkI : (k : Int) < (zs.length : Int) := by omega
        have hkI2 : (k : Int) < 200 := by omega
        have d1 : decide (k < zs.length) = true := by simp; omega
        have d2 : decide (k < 200) = true := by simp; omega
        clear hc HD HZ
        generalize zs[k] = z at *
        have hu := F3.out.dk.le
        rw [List.length_replicate] at hu
        have wm : IntKind.i64.wrap (m : Int) = m := by rw [IntKind.wrap_i64]; omega
        have wnm : IntKind.i64.wrap ((n : Int) + (m : Int)) = ((n + m : Nat) : Int) := by rw [IntKind.wrap_i64]; omega
        go_wp2_with (first
          | (at_make; refine wpList_make_full _ rfl _ _ 25 rfl wr.heap.size 5 i0 (.int .u8 0) 1 Try.underlying25 hi0 hz0 hz1 .i64 .i64 _ _ m rfl rfl (by simp) (by simp) (by rw [hz2]; omega) (by unfold maxLen; omega) (Nat.le_refl _) ?_; intro w4 O4 G4; rw [made8] at O4; have O5 : Hid (Own8 w4 wr.heap.size (.slice (some ⟨wr.heap.size, 0, none⟩) m m) (List.replicate m 0)) := (by unfold Own8; rw [List.length_replicate]; exact O4); have F4 : Hid (Fi w w4 w.heap.size r n v) := ⟨F3.out.bl.trans ((below_none (Below.refl _ _) G4 (Nat.le_refl _)).mono F3.out.bl.size), F3.out.dk.next (below_none (Below.refl _ _) G4 (Nat.le_refl _))⟩; clear O4 G4 F3))
        by_cases hfull : 1 + r < n + m
        · have d3 : decide (((n + m : Nat) : Int) > ((1 + r : Nat) : Int)) = true := by simp; omega
          have d4 : decide (1 + r < n + m) = true := by simp; omega
          refine (append_full (some ⟨wr.heap.size, 0, none⟩) m m (by rw [List.length_replicate]; exact hfull) F4.out.dk).mono ?_
          rintro e w5 ⟨rfl, n5, hw5⟩
          have F5 : Hid (Fi w w5 w.heap.size r n v) := (by subst hw5; exact ⟨below_drewN F4.out.bl _, F4.out.dk.drewN _⟩)
          clear hw5 F4 O5
          go_wp2
          go_roundw
          case rel => exact ⟨k + 1, n, v, by omega, by go_num, rfl, F5.out⟩
          case measure => simp [intOf]; omega
        · have d3 : decide (((n + m : Nat) : Int) > ((1 + r : Nat) : Int)) = false := by simp; omega
          have d4 : decide (1 + r < n + m) = false := by simp; omega
          have HA := append_yes (some ⟨wr.heap.size, 0, none⟩) m (List.replicate m 0) O5.out.rd.2 (by simp) (by rw [List.length_replicate, List.length_replicate]; omega) F4.out.dk
          rw [List.length_replicate, List.replicate_append_replicate] at HA
          refine HA.mono ?_
          rintro e w5 ⟨rfl, v5, hd5, hm5⟩
          have F5 : Hid (Fi w w5 w.heap.size r (n + m) v5) := ⟨F4.out.bl.trans (hm5.fr.below F4.out.dk.E F4.out.dk.BW), hd5⟩
          clear hd5 hm5 F4 O5 HA
          go_wp2
          go_roundw
          case rel => exact ⟨k + 1, n + m, v5, by omega, by go_num, rfl, F5.out⟩
          case measure => simp [intOf]; omega
      · have d1 : decide (k < zs.length) = true := by simp; omega
        have d2 : decide (k < 200) = false := by simp; omega
        clear HD HZ
        go_wp2_with fail
        refine (bytes_fi F3.out).mono ?_
        rintro e w5 ⟨a5, c5, rfl, hb⟩
        go_wp2
        go_ret
        exact ⟨by simp, hb⟩
    · have d1 : decide (k < zs.length) = false := by simp; omega
      clear HD HZ
      go_wp2_with fail
      refine (bytes_fi F3.out).mono ?_
      rintro e w5 ⟨a5, c5, rfl, hb⟩
      go_wp2
      go_ret
      exact ⟨by simp, hb⟩
end Go.Proofs.Ytlplcncdedjkmaa
