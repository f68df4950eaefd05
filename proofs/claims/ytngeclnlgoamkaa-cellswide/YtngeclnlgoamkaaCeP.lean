/- CellsWide. -/
import Derived.Test.YtngeclnlgoamkaaCeO
import Derived.Test.YtngeclnlgoamkaaClass
namespace Go.Proofs.Ytngeclnlgoamkaa
open Go.RowKit

theorem rnd_n {r n : Int} (h0 : 1 ≤ n) (h1 : n ≤ 128) : rndB r n = ⟨n, cHi n (rstep r), cLo n (rstep (rstep r))⟩ ∧ rndS r n = rstep (rstep r) := by
  unfold rndB rndS
  rw [if_pos ⟨h0, h1⟩, if_pos ⟨h0, h1⟩]
  exact ⟨rfl, rfl⟩
theorem shl_shr (t n : Int) (h0 : 1 ≤ n) (h1 : n < 64) : IntKind.u64.wrap (t * 2 ^ (64 - n).toNat) / 2 ^ (64 - n).toNat = t % 2 ^ n.toNat := by
  have e : (18446744073709551616 : Int) = 2 ^ (64 - n).toNat * 2 ^ n.toNat := by
    rw [← Int.pow_add]
    have : (64 - n).toNat + n.toNat = 64 := by omega
    rw [this]; rfl
  have hp : (0 : Int) < 2 ^ (64 - n).toNat := Int.pow_pos (by decide)
  rw [IntKind.wrap_u64, e, Int.mul_comm t, Int.mul_emod_mul_of_pos _ _ hp, Int.mul_ediv_cancel_left _ (by omega)]
set_option maxRecDepth 100000 in
set_option maxHeartbeats 4000000 in
theorem cellsWide_any (r : Int) (m : Nat) (hm : m < 256) : Pure 7 #[.int .u64 r, .int .u8 m] (.bool true) := fun w => by
  have w1 : IntKind.i64.wrap (m : Int) = m := by rw [IntKind.wrap_i64]; omega
  have h0 : 1 ≤ 1 + (m : Int) % 128 := by omega
  have h1 : 1 + (m : Int) % 128 ≤ 128 := by omega
  have H1 : Hid (Pure _ _ _) := random_any r (1 + (m : Int) % 128)
  have H2 : Hid (Pure _ _ _) := random_any r 128
  rw [(rnd_n h0 h1).1, (rnd_n h0 h1).2] at H1
  rw [(rnd_n (by decide) (by decide)).1, (rnd_n (by decide) (by decide)).2] at H2
  have HL : Hid (Pure _ _ _) := lives14_any
  have ht := rstep_r (rstep r)
  have HH0 := hide h0
  have HH1 := hide h1
  have e128 : cLo 128 (rstep (rstep r)) = rstep (rstep r) := cLo_gt (by decide)
  rw [e128] at H2
  clear h0 h1 e128
  simp only [Nb.val] at H1 H2
  go_enter Try.func7, Try.ntmps7
  go_wp2_with fail
  refine (H1.out _).mono ?_
  generalize 1 + (m : Int) % 128 = n at *
  generalize rstep (rstep r) = t at *
  generalize rstep r = s at *
  rintro e wa ⟨rfl, hb1⟩
  go_wp2_with fail
  refine (H2.out _).mono ?_
  rintro e wb ⟨rfl, hb2⟩
  have k1 := heap_below hb2 (heap_alloc_new wa _)
  obtain ⟨q0, q1, q2, q3⟩ := at3 (heap_past (.cells #[.int .i64 128, .int .u64 (cHi 128 s), .int .u64 t] 24) k1)
  have BB := hide (bstep (bstep (bstep hb1 (below1 _ _)) hb2) (below1 wb (.cells #[.int .i64 128, .int .u64 (cHi 128 s), .int .u64 t] 24)))
  clear hb1 hb2
  by_cases hn : n < 64
  · have eh : cHi n s = 0 := cHi_le (by omega)
    have el : cLo n t = t % 2 ^ n.toNat := cLo_le (by omega)
    have w3 : IntKind.i64.wrap (64 - n) = 64 - n := by rw [IntKind.wrap_i64]; have := HH0.out; omega
    have w4 : (64 - n < 0) = False := by simp; omega
    have ee := shl_shr t n HH0.out hn
    have g0 : 0 ≤ 64 - n := by omega
    have g1 : 64 - n ≤ 64 := by have := HH0.out; omega
    have K1 := hide (heap_past (.cells #[.int .i64 128, .int .u64 (cHi 128 s), .int .u64 t] 24) k1)
    have K2 := hide (heap_alloc_new wb (.cells #[.int .i64 128, .int .u64 (cHi 128 s), .int .u64 t] 24))
    rw [eh, el] at K1
    rw [eh] at q1
    rw [el] at q2
    clear k1
    go_wp2
    obtain ⟨W, hW⟩ : ∃ W, W = wb.alloc (.cells #[.int .i64 128, .int .u64 (cHi 128 s), .int .u64 t] 24) := ⟨_, rfl⟩
    rw [← hW] at BB K1 K2 ⊢
    obtain ⟨X, f, hX, hS, hcov⟩ := class_of (fun w' => Below W.heap.size W w') W.drew (Below.refl _ _).drew
    have HC0 : Hid (∃ x, W.drew = f x) := hcov _ (Below.refl _ _).drew
    have HNX : Hid (∀ x w', Below (f x).heap.size (f x) w' → ∃ y, w' = f y) := fun x w' hb => hcov w' ((hS x).trans (hb.mono (hS x).size))
    have HSS := hide hS
    have t1 := fun x => (at3 (heap_below (hS x) K1.out)).2.1
    have t2 := fun x => (at3 (heap_below (hS x) K1.out)).2.2.1
    have t3 := fun x => (at3 (heap_below (hS x) K2.out)).2.2.1
    clear hcov hS hW eh el
    refine wp_region_class f (by kernel_rfl) (by kernel_rfl) HC0.out ?_
    repeat (first
      | go_big_quiet_skip
      | (go_big_quiet_want; go_big_quiet_op; first
          | go_big_quiet_on
          | (apply Exists.intro
             refine ⟨fun _ => ?_, ?_⟩
             · (go_at_call 10; refine (HL.out _).mono ?_; rintro e' wn ⟨rfl, hb⟩; exact ⟨rfl, HNX.out _ _ hb⟩)
             go_big_quiet_on)))
    refine wpQuiet_nil ?_
    rintro _ ⟨x, rfl⟩
    have HBX := hide (bstep BB.out (HSS.out x))
    clear t1 t2 t3 HNX HC0
    go_wp2
    go_ret
    exact ⟨rfl, HBX.out⟩
  · have g0 : (n < 64) = False := by simp; omega
    have el : cLo n t = t := by
      by_cases h : n = 64
      · subst h
        rw [cLo_le (by decide)]
        have e : (2 : Int) ^ (64 : Int).toNat = 18446744073709551616 := rfl
        rw [e]
        have := ht.1
        have := ht.2
        omega
      · exact cLo_gt (by omega)
    rw [el] at q2
    clear hn k1
    go_wp2_with fail
    refine (HL.out _).mono ?_
    rintro e wc ⟨rfl, hb3⟩
    go_wp2
    go_ret
    exact ⟨rfl, bstep BB.out hb3⟩
end Go.Proofs.Ytngeclnlgoamkaa
