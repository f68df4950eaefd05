/- strconv.FormatUint at base 10. -/
import Derived.Test.YtfanhdjebmdniaaGreatDoorUE
namespace Go.Proofs.YtfanhdjebmdniaaGreatDoor
open Go.RowKit Go.Sort

abbrev u8V : UInt8 → Value := fun b => Value.int .u8 (b.toNat : Int)
theorem holds_at0 (w : World) (nd : Nat) (hs : nd ≤ 24) : Holds u8V (w.alloc (.cells Lib.zeros24 334)) w.heap.size 0 (Array.replicate nd (0 : UInt8)) := fun j hj => by
  have hj' : j < nd := by simpa using hj
  refine ⟨?_, World.frozen?_alloc_new _ _ _ _⟩
  rw [World.cell?_alloc_new, Lib.zeros24_at _ (by omega), getElem!_pos _ j hj]
  simp
theorem bel_put (w : World) (o : Obj) (dk : Array UInt8) (k : Nat) : Below w.heap.size w ((putRow u8V (w.alloc o) w.heap.size 0 dk).drewN k) := by
  obtain ⟨os, _, e⟩ := putRow_grow_new u8V w #[o] w.heap.size 0 dk (Nat.le_refl _)
  rw [alloc_eq_grow, e]
  exact ⟨rfl, rfl, rfl, by show w.heap.size ≤ (w.heap ++ os).size; rw [Array.size_append]; omega, fun j hj => by show (w.heap ++ os)[j]? = w.heap[j]?; exact Array.getElem?_append_left hj⟩
set_option maxRecDepth 100000 in
theorem fmt10_in (u : Nat) (hu : u < 18446744073709551616) (w : World) (hL : Ld w) :
    Calls Tryz.prog 206 #[.int .u64 (u : Int), .int .i64 10] w fun e w' => e = .returned (.string (txt (Lib.decDigits u))) ∧ Below w.heap.size w w' := by
  by_cases hs : u < 100
  · have HS := hide (fun W => Tryz.internal_strconv_small u hs W)
    have hc : IntKind.i64.wrap (u : Int) = (u : Int) := by rw [IntKind.wrap_i64]; omega
    have hlt : (u : Int) < 100 := by omega
    clear hL
    go_enter Tryz.func206, Tryz.ntmps206
    go_wp2_with fail
    refine (HS.out _).mono ?_
    rintro e w1 ⟨rfl, rfl⟩
    go_wp2
    go_ret
    exact ⟨rfl, Below.refl _ _⟩
  · have hu1 : 1 ≤ u := by omega
    have hnd20 : Lib.nDigits u ≤ 20 := by have := Lib.numDigits_eq u hu1 hu; split at this <;> omega
    have HT : Hid (∀ o, Calls Tryz.prog 229 #[.int .u64 (u : Int)] (w.alloc o) fun e w' => e = .returned (.int .i64 (Lib.nDigits u : Int)) ∧ w' = w.alloc o) := fun o => Tryz.internal_strconv_numDigits u hu1 hu _ (Lib.tabIs_alloc hL.pw _)
    have hal : Tryz.prog.arrayLen 334 = 24 := by kernel_rfl
    have hsl : ∀ W, (Instr.sliceAt 334 (.pointer (some ⟨w.heap.size, 0, none⟩)) none (some (.int .i64 (Lib.nDigits u : Int))) none).run Tryz.prog W = .ok (.slice (some ⟨w.heap.size, 0, none⟩) (Lib.nDigits u) 24) W := fun W => by
      rw [run_sliceAt_array_h W 334 ⟨w.heap.size, 0, none⟩ (by kernel_rfl) .i64 (Lib.nDigits u : Int) (by omega) (by rw [hal]; omega)]
      go_simp
    have hH0 := holds_at0 w (Lib.nDigits u) (by omega)
    have hfmt := Tryz.internal_strconv_formatBase10 w.heap.size 0 24 u (Array.replicate (Lib.nDigits u) 0) (w.alloc (.cells Lib.zeros24 334)) hH0 (by rw [Array.size_replicate]; exact Lib.lt_pow_nDigits u) hu (by rw [Array.size_replicate]; omega)
    rw [Array.size_replicate] at hfmt
    have HF := hide hfmt
    have HH0 := hide hH0
    have hge : ¬ ((u : Int) < 100) := by omega
    clear hH0 hal hfmt hL
    go_enter Tryz.func206, Tryz.ntmps206
    go_wp2_with fail
    refine (HT.out _).mono ?_
    rintro e w1 ⟨rfl, rfl⟩
    go_wp2_with fail
    refine HF.out.mono ?_
    rintro e w2 ⟨rfl, k, v', dk, rfl, hF⟩
    have hcv : (convert 62 9 (.slice (some ⟨w.heap.size, 0, none⟩) (Lib.nDigits u) 24)).run Tryz.prog ((putRow u8V (w.alloc (.cells Lib.zeros24 334)) w.heap.size 0 dk).drewN k) = .ok (.string ⟨(Lib.decDigits u).toArray⟩) ((putRow u8V (w.alloc (.cells Lib.zeros24 334)) w.heap.size 0 dk).drewN k) := by
      have h := run_convert_bytes_back (P := Tryz.prog) ((putRow u8V (w.alloc (.cells Lib.zeros24 334)) w.heap.size 0 dk).drewN k) 62 9 5 ⟨w.heap.size, 0, none⟩ 24 (Lib.decDigits u) Tryz.underlying62 Tryz.underlying5 Tryz.underlying9 (fun j hj => by
        rw [Lib.row_is_numeral hF j hj, Lib.add_plain, World.cell?_drewN]
        exact cell?_putRow u8V _ w.heap.size 0 _ dk HH0.out (by rw [hF.size, Array.size_replicate]) j (by rw [hF.size]; rw [Lib.decDigits_length] at hj; exact hj))
      rw [Lib.decDigits_length] at h
      exact h
    have HB := hide (bel_put w (.cells Lib.zeros24 334) dk k)
    go_wp2
    go_ret
    exact ⟨rfl, HB.out⟩
theorem fmt10 (u : Nat) (hu : u < 18446744073709551616) (w : World) (hL : Ld w) :
    Calls Tryz.prog 186 #[.int .u64 (u : Int), .int .i64 10] w fun e w' => e = .returned (.string (txt (Lib.decDigits u))) ∧ Below w.heap.size w w' := by
  have HF := hide (fmt10_in u hu w hL)
  clear hL hu
  generalize txt (Lib.decDigits u) = T at *
  go_enter Tryz.func186, Tryz.ntmps186
  go_wp2_with fail
  refine HF.out.mono ?_
  rintro e w1 ⟨rfl, hb⟩
  have HB := hide hb
  clear hb
  go_wp2
  go_ret
  exact ⟨rfl, HB.out⟩
end Go.Proofs.YtfanhdjebmdniaaGreatDoor
