/- The walks of the closures that move and tell, of the questions, and of cat, not, slice and cast. -/
import Derived.Test.YtbbnjilajkllpaaGreatDoorShf
namespace Go.Proofs.YtbbnjilajkllpaaGreatDoor
open Go.RowKit

theorem far_up {u v n : Nat} (hv : 18446744073709551616 ≤ v) (hn : n ≤ 128) : u * 2 ^ v % 2 ^ n = 0 :=
  Nat.mod_eq_zero_of_dvd (Nat.dvd_trans (Nat.pow_dvd_pow 2 (by omega)) (Nat.dvd_mul_left _ _))
theorem far_down {u v n : Nat} (hv : 18446744073709551616 ≤ v) (hu : u < top) : u / 2 ^ v % 2 ^ n = 0 := by
  have : u / 2 ^ v = 0 := Nat.div_eq_of_lt (Nat.lt_of_lt_of_le (by rw [top_eq] at hu; exact hu) (Nat.pow_le_pow_right (by decide) (by omega)))
  rw [this, Nat.zero_mod]
theorem past3 {w : World} {b : Nat} {F : Value} (h : w.cell? ⟨b, 0, none⟩ = some F) (o1 o2 o3 : Obj) : (((w.alloc o1).alloc o2).alloc o3).cell? ⟨b, 0, none⟩ = some F := by
  have hb : b < w.heap.size := World.block_lt_of_cell? w _ h
  rw [World.cell?_alloc_past _ _ _ (by simp; omega), World.cell?_alloc_past _ _ _ (by simp; omega), World.cell?_alloc_past _ _ _ hb]
  exact h
theorem wHi_pos {v : Nat} (h : wHi v ≠ 0) : 18446744073709551616 ≤ v := by unfold wHi at h; omega
theorem wLo_low {v : Nat} (h : wHi v = 0) : wLo v = v := by unfold wHi at h; unfold wLo; omega
theorem moved_up (n1 n2 : Int) (u v b : Nat) (w : World) (hu : u < top) (m0 : 1 ≤ n1) (m1 : n1 ≤ 128) (hcap : w.cell? ⟨b, 0, none⟩ = some (.func (Fn.func 21) #[] #[])) :
    Calls Tryz.prog 73 #[.agg #[.int .i64 n1, .int .u64 (wHi u), .int .u64 (wLo u)], .agg #[.int .i64 n2, .int .u64 (wHi v), .int .u64 (wLo v)], .pointer (some ⟨b, 0, none⟩)] w fun e w' => e = .returned (.agg #[.int .i64 n1, .int .u64 (wHi ((u * 2 ^ v) % 2 ^ n1.toNat)), .int .u64 (wLo ((u * 2 ^ v) % 2 ^ n1.toNat))]) ∧ Below w.heap.size w w' := by
  have hc3 := past3 hcap
  by_cases hz : wHi v ≠ 0
  · have e0 : (u * 2 ^ v) % 2 ^ n1.toNat = 0 := far_up (wHi_pos hz) (by omega)
    rw [e0, w_zero.1, w_zero.2]
    have hz' : (wHi v != 0) = true := by simpa using hz
    clear hz e0
    generalize wHi u = h1 at *
    generalize wLo u = l1 at *
    generalize wHi v = h2 at *
    generalize wLo v = l2 at *
    go_enter Tryz.func73, Tryz.ntmps73
    go_wp2
    refine bodyPost_ret (v := .agg #[.int .i64 n1, .int .u64 0, .int .u64 0]) (by simp [results, Tryz.results73, go_sem]) rfl ⟨rfl, ?_⟩
    exact (((Below.refl _ _).alloc (Nat.le_refl _) _).alloc (by simp) _).alloc (by simp; omega) _
  · have hz0 : wHi v = 0 := by omega
    have hk : (wLo v).toNat = v := by rw [wLo_low hz0]; rfl
    have hz' : (wHi v != 0) = false := by simp [hz0]
    have HU : Hid (∀ X Y W, wHi ((u * 2 ^ v) % top) = X → wLo ((u * 2 ^ v) % top) = Y → _) := fun X Y W hX hY => upV u (wLo v) X Y W hu (wLo_bd v).1 (wLo_bd v).2 (by rw [hk]; exact hX) (by rw [hk]; exact hY)
    have hs : (u * 2 ^ v) % top < top := mod_top_lt _
    rw [← mod_top (u * 2 ^ v) (by omega : n1.toNat ≤ 128)]
    generalize (u * 2 ^ v) % top = s at HU hs ⊢
    generalize hX : wHi s = X at HU
    generalize hY : wLo s = Y at HU
    generalize hrh : wHi (s % 2 ^ n1.toNat) = rh
    generalize hrl : wLo (s % 2 ^ n1.toNat) = rl
    have HX := hide hX; have HY := hide hY; have HRH := hide hrh; have HRL := hide hrl; have HS := hide hs
    clear hX hY hrh hrl hs hz hz0 hk
    generalize wHi u = h1 at *
    generalize wLo u = l1 at *
    generalize wHi v = h2 at *
    generalize wLo v = l2 at *
    go_enter Tryz.func73, Tryz.ntmps73
    go_wp2_with fail
    refine (HU.out X Y _ rfl rfl).mono ?_
    rintro e w1 ⟨rfl, hw⟩
    subst hw
    go_wp2_with fail
    refine (cutR n1 X Y rh rl s _ m0 m1 HS.out HX.out.symm HY.out.symm HRH.out HRL.out).mono ?_
    rintro e w1 ⟨rfl, hb⟩
    obtain ⟨hc, hf⟩ := bcell hb
    have hz : w.heap.size + 2 < w1.heap.size := by have := hb.size; simp at this; omega
    go_wp2
    refine bodyPost_ret (v := .agg #[.int .i64 n1, .int .u64 rh, .int .u64 rl]) (by simp [results, Tryz.results73, go_sem, hc]) rfl ⟨rfl, ?_⟩
    exact (((((((Below.refl _ _).alloc (Nat.le_refl _) _).alloc (by simp) _).alloc (by simp; omega) _).trans (hb.mono (by simp; omega))).setCell (by simp; omega) _).setCell (by simp; omega) _).setCell (by simp; omega) _
theorem moved_down (n1 n2 : Int) (u v b : Nat) (w : World) (hu : u < top) (m0 : 1 ≤ n1) (m1 : n1 ≤ 128) (hcap : w.cell? ⟨b, 0, none⟩ = some (.func (Fn.func 11) #[] #[])) :
    Calls Tryz.prog 73 #[.agg #[.int .i64 n1, .int .u64 (wHi u), .int .u64 (wLo u)], .agg #[.int .i64 n2, .int .u64 (wHi v), .int .u64 (wLo v)], .pointer (some ⟨b, 0, none⟩)] w fun e w' => e = .returned (.agg #[.int .i64 n1, .int .u64 (wHi ((u / 2 ^ v) % 2 ^ n1.toNat)), .int .u64 (wLo ((u / 2 ^ v) % 2 ^ n1.toNat))]) ∧ Below w.heap.size w w' := by
  have hc3 := past3 hcap
  by_cases hz : wHi v ≠ 0
  · have e0 : (u / 2 ^ v) % 2 ^ n1.toNat = 0 := far_down (wHi_pos hz) hu
    rw [e0, w_zero.1, w_zero.2]
    have hz' : (wHi v != 0) = true := by simpa using hz
    clear hz e0
    generalize wHi u = h1 at *
    generalize wLo u = l1 at *
    generalize wHi v = h2 at *
    generalize wLo v = l2 at *
    go_enter Tryz.func73, Tryz.ntmps73
    go_wp2
    refine bodyPost_ret (v := .agg #[.int .i64 n1, .int .u64 0, .int .u64 0]) (by simp [results, Tryz.results73, go_sem]) rfl ⟨rfl, ?_⟩
    exact (((Below.refl _ _).alloc (Nat.le_refl _) _).alloc (by simp) _).alloc (by simp; omega) _
  · have hz0 : wHi v = 0 := by omega
    have hk : (wLo v).toNat = v := by rw [wLo_low hz0]; rfl
    have hz' : (wHi v != 0) = false := by simp [hz0]
    have HU : Hid (∀ X Y W, wHi (u / 2 ^ v) = X → wLo (u / 2 ^ v) = Y → _) := fun X Y W hX hY => downV u (wLo v) X Y W hu (wLo_bd v).1 (wLo_bd v).2 (by rw [hk]; exact hX) (by rw [hk]; exact hY)
    have hs : u / 2 ^ v < top := Nat.lt_of_le_of_lt (Nat.div_le_self _ _) hu
    skip
    generalize u / 2 ^ v = s at HU hs ⊢
    generalize hX : wHi s = X at HU
    generalize hY : wLo s = Y at HU
    generalize hrh : wHi (s % 2 ^ n1.toNat) = rh
    generalize hrl : wLo (s % 2 ^ n1.toNat) = rl
    have HX := hide hX; have HY := hide hY; have HRH := hide hrh; have HRL := hide hrl; have HS := hide hs
    clear hX hY hrh hrl hs hz hz0 hk
    generalize wHi u = h1 at *
    generalize wLo u = l1 at *
    generalize wHi v = h2 at *
    generalize wLo v = l2 at *
    go_enter Tryz.func73, Tryz.ntmps73
    go_wp2_with fail
    refine (HU.out X Y _ rfl rfl).mono ?_
    rintro e w1 ⟨rfl, hw⟩
    subst hw
    go_wp2_with fail
    refine (cutR n1 X Y rh rl s _ m0 m1 HS.out HX.out.symm HY.out.symm HRH.out HRL.out).mono ?_
    rintro e w1 ⟨rfl, hb⟩
    obtain ⟨hc, hf⟩ := bcell hb
    have hz : w.heap.size + 2 < w1.heap.size := by have := hb.size; simp at this; omega
    go_wp2
    refine bodyPost_ret (v := .agg #[.int .i64 n1, .int .u64 rh, .int .u64 rl]) (by simp [results, Tryz.results73, go_sem, hc]) rfl ⟨rfl, ?_⟩
    exact (((((((Below.refl _ _).alloc (Nat.le_refl _) _).alloc (by simp) _).alloc (by simp; omega) _).trans (hb.mono (by simp; omega))).setCell (by simp; omega) _).setCell (by simp; omega) _).setCell (by simp; omega) _
end Go.Proofs.YtbbnjilajkllpaaGreatDoor
