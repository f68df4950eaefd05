/- package cells: copies, and an array with another cell. -/
import Derived.Test.YtngeclnlgoamkaaCeC
import Derived.Test.YtngeclnlgoamkaaGnC
namespace Go.Proofs.Ytngeclnlgoamkaa
open Go.RowKit

theorem Try.infoIn : (Try.prog.info? 3).map (fun i => (i.zero, i.size, i.bytes)) = some (some (.int .i64 0), 1, 8) := by kernel_rfl
theorem sizeNb : (Try.prog.info? 24).map (·.size) = some 3 := by kernel_rfl
theorem sizeIn : (Try.prog.info? 3).map (·.size) = some 1 := by kernel_rfl
theorem len_made {W : World} {B c n : Nat} {e : TypeId} {v : Value} {xs : List Value} (h : W.ownsRow B e c v n xs) : xs.length = n * c := h.1
set_option maxHeartbeats 1000000 in
theorem copiedN_any (a : Option Addr) (cap : Nat) (l : List Nb) (w : World) (hr : RdN w a l) (hl : l.length ≤ 1000000) : Calls Try.prog 39 #[.slice a l.length cap] w fun e w' => ∃ a', e = .returned (.slice a' l.length l.length) ∧ OwnR w' w.heap.size a' 24 (flat Nb.cells l) ∧ Below w.heap.size w w' := by
  obtain ⟨i0, hi0, hz0, hz1, hz2⟩ := info_parts Try.infoNb
  rcases hr with rfl | ⟨p, off, rfl, hp, hc⟩
  · rw [List.length_nil]
    go_enter Try.func39, Try.ntmps39
    go_wp2
    go_ret
    exact ⟨none, rfl, .inl ⟨rfl, rfl⟩, Below.refl _ _⟩
  · by_cases h0 : l.length = 0
    · obtain rfl : l = [] := List.length_eq_zero_iff.1 h0
      rw [List.length_nil]
      go_enter Try.func39, Try.ntmps39
      go_wp2
      go_ret
      exact ⟨none, rfl, .inl ⟨rfl, rfl⟩, Below.refl _ _⟩
    · have h1 : ((l.length : Int) == 0) = false := by rw [zero_eq, beq_eq_false_iff_ne]; exact h0
      have h2 : ((l.length : Int) = 0) = False := eq_false (fun h => h0 (by omega))
      have HS := hide (nb_src hc)
      have HP := hide hp
      have HL := hide hl
      obtain ⟨L, hL⟩ : ∃ L, L = flat Nb.cells l := ⟨_, rfl⟩
      have HN : Hid (L.length = l.length * 3) := by rw [hL]; exact flat_length nb_len l
      have HO : Hid (∀ u ∈ L, u.oneCell' = true) := by rw [hL]; exact flat_one nb_one l
      rw [← hL] at HS ⊢
      clear hc hp hl hL h0
      generalize l.length = n at *
      go_enter Try.func39, Try.ntmps39
      go_wp2_with (first
        | (at_make; refine wpList_make_full _ rfl _ _ 30 rfl w.heap.size 24 i0 _ 3 Try.underlying30 hi0 hz0 hz1 .i64 .i64 _ _ n rfl rfl rfl rfl (by rw [hz2]; have := HL.out; omega) (by unfold maxLen; have := HL.out; omega) (Nat.le_refl _) ?_; intro W0 hm0 hg0; have R0 := hide (made_row hm0); have N0 := hide (len_made hm0); have B0 := hide (below_made hg0); clear hm0 hg0)
        | (refine wpList_copyC rfl _ _ 30 30 rfl 24 3 Try.underlying30 sizeNb w.heap.size 0 n n ⟨p, off, none⟩ n cap n rfl rfl _ 24 R0.out L (Nat.min_self n) HN.out (fun j v hv => by rw [add8]; have := HS.out j v hv; rw [add8] at this; exact (B0.out.cell (p := ⟨p, off + j, none⟩) HP.out).trans this) (by rw [N0.out, HN.out]; omega) HO.out w.heap.size w B0.out (Nat.le_refl _) ?_; intro W1 HG1 hB1; rw [splice_all (by rw [N0.out, HN.out])] at HG1))
      go_ret
      exact ⟨_, rfl, .inr ⟨_, rfl, Nat.le_refl _, HG1.out⟩, hB1⟩
set_option maxHeartbeats 1000000 in
theorem copiedZ_any (a : Option Addr) (cap : Nat) (l : List Int) (w : World) (hr : RdZ w a l) (hl : l.length ≤ 1000000) : Calls Try.prog 40 #[.slice a l.length cap] w fun e w' => ∃ a', e = .returned (.slice a' l.length l.length) ∧ OwnR w' w.heap.size a' 3 (flat intC l) ∧ Below w.heap.size w w' := by
  obtain ⟨i0, hi0, hz0, hz1, hz2⟩ := info_parts Try.infoIn
  rcases hr with rfl | ⟨p, off, rfl, hp, hc⟩
  · rw [List.length_nil]
    go_enter Try.func40, Try.ntmps40
    go_wp2
    go_ret
    exact ⟨none, rfl, .inl ⟨rfl, rfl⟩, Below.refl _ _⟩
  · by_cases h0 : l.length = 0
    · obtain rfl : l = [] := List.length_eq_zero_iff.1 h0
      rw [List.length_nil]
      go_enter Try.func40, Try.ntmps40
      go_wp2
      go_ret
      exact ⟨none, rfl, .inl ⟨rfl, rfl⟩, Below.refl _ _⟩
    · have h1 : ((l.length : Int) == 0) = false := by rw [zero_eq, beq_eq_false_iff_ne]; exact h0
      have h2 : ((l.length : Int) = 0) = False := eq_false (fun h => h0 (by omega))
      have HS := hide (int_src hc)
      have HP := hide hp
      have HL := hide hl
      obtain ⟨L, hL⟩ : ∃ L, L = flat intC l := ⟨_, rfl⟩
      have HN : Hid (L.length = l.length * 1) := by rw [hL]; exact flat_length int_len l
      have HO : Hid (∀ u ∈ L, u.oneCell' = true) := by rw [hL]; exact flat_one int_one l
      rw [← hL] at HS ⊢
      clear hc hp hl hL h0
      generalize l.length = n at *
      go_enter Try.func40, Try.ntmps40
      go_wp2_with (first
        | (at_make; refine wpList_make_full _ rfl _ _ 31 rfl w.heap.size 3 i0 _ 1 Try.underlying31 hi0 hz0 hz1 .i64 .i64 _ _ n rfl rfl rfl rfl (by rw [hz2]; have := HL.out; omega) (by unfold maxLen; have := HL.out; omega) (Nat.le_refl _) ?_; intro W0 hm0 hg0; have R0 := hide (made_row hm0); have N0 := hide (len_made hm0); have B0 := hide (below_made hg0); clear hm0 hg0)
        | (refine wpList_copyC rfl _ _ 31 31 rfl 3 1 Try.underlying31 sizeIn w.heap.size 0 n n ⟨p, off, none⟩ n cap n rfl rfl _ 3 R0.out L (Nat.min_self n) HN.out (fun j v hv => by rw [add8]; have := HS.out j v hv; rw [add8] at this; exact (B0.out.cell (p := ⟨p, off + j, none⟩) HP.out).trans this) (by rw [N0.out, HN.out]; omega) HO.out w.heap.size w B0.out (Nat.le_refl _) ?_; intro W1 HG1 hB1; rw [splice_all (by rw [N0.out, HN.out])] at HG1))
      go_ret
      exact ⟨_, rfl, .inr ⟨_, rfl, Nat.le_refl _, HG1.out⟩, hB1⟩
end Go.Proofs.Ytngeclnlgoamkaa
