/- pointsmanlaw02.PacketPuts, walked. -/
import Derived.Test.YtfniomfcfodojaaGreatDoorQRp
import Derived.Test.YtfniomfcfodojaaGreatDoorQLim
import Derived.Test.YtfniomfcfodojaaGreatDoorQBo
namespace Go.Proofs.YtfniomfcfodojaaGreatDoor
open Go.RowKit

theorem packed_exists (N : Nat) : ∀ (n : Nat) (pre : List Bit01), pre.length = n → n ≤ 8 * N → ∃ ys, Packed ys pre N
  | 0, pre, h, _ => by
    obtain rfl : pre = [] := List.length_eq_zero_iff.1 h
    exact ⟨_, Packed.zero N⟩
  | n + 1, pre, h, hn => by
    rcases List.eq_nil_or_concat pre with rfl | ⟨q, x, rfl⟩
    · simp at h
    · rw [List.concat_eq_append] at h ⊢
      have h1 : q.length = n := by simp at h; omega
      obtain ⟨ys, hy⟩ := packed_exists N n q h1 (by omega)
      exact ⟨_, hy.step x (by omega)⟩
theorem own_packed {W : World} {B g N : Nat} {ys xs : List Nat} {pre : List Bit01} (h : RowC W g ys) (hB : B ≤ g) (hp : Packed ys pre N) (hx : Packed xs pre N) : Own8 W B (.slice (some ⟨g, 0, none⟩) N N) xs := by
  have e := hp.eq hx
  subst e
  have := own8_lower h hB
  rw [hp.len] at this
  exact this
theorem rdN_nil (W : World) : RdN W 0 0 [] := ⟨fun i h => by simp at h, fun i h => by simp at h, fun i h => by simp at h, fun i h => by simp at h⟩
/- Both tell the same bytes, or the same refusal. -/
def Pts (F : Nat) (L : List (Int × Nat)) (xs : List Nat) (er : Int) : Prop := ∀ (a : Option Addr) (cap : Nat) (W : World), RdL W a L → Calls Tryz.prog F #[.slice a L.length cap] W fun e W' => ∃ v, e = .returned (.tuple #[v, .int .i64 er]) ∧ Own8 W' W.heap.size v xs ∧ Below W.heap.size W W'
theorem first_bad (L : List (Int × Nat)) (h : ¬ ∀ j (h : j < L.length), okN L[j].1 L[j].2 = true) : ∃ i0, ∃ h0 : i0 < L.length, okN L[i0].1 L[i0].2 = false ∧ ∀ j (h : j < L.length), j < i0 → okN L[j].1 L[j].2 = true := by
  have key : ∀ m, m ≤ L.length → (∀ j (h : j < L.length), j < m → okN L[j].1 L[j].2 = true) ∨ ∃ i0, ∃ h0 : i0 < L.length, okN L[i0].1 L[i0].2 = false ∧ ∀ j (h : j < L.length), j < i0 → okN L[j].1 L[j].2 = true := by
    intro m
    induction m with
    | zero => intro _; exact .inl (fun j h hj => absurd hj (by omega))
    | succ m ih =>
      intro hm
      rcases ih (by omega) with h1 | h1
      · cases hk : okN (L[m]'(by omega)).1 (L[m]'(by omega)).2 with
        | false => exact .inr ⟨m, by omega, hk, h1⟩
        | true =>
          refine .inl (fun j hj hjm => ?_)
          by_cases e : j = m
          · subst e; exact hk
          · exact h1 j hj (by omega)
      · exact .inr h1
  rcases key L.length (Nat.le_refl _) with h1 | h1
  · exact absurd (fun j hj => h1 j hj hj) h
  · exact h1
theorem puts_same (L : List (Int × Nat)) (hv : ∀ j (h : j < L.length), L[j].2 < top) (hl : L.length ≤ 1000000) : ∃ (xs : List Nat) (er : Int), xs.length ≤ 100000 ∧ Pts 5 L xs er ∧ Pts 6 L xs er := by
  by_cases hok : ∀ j (h : j < L.length), okN L[j].1 L[j].2 = true
  · by_cases hS : sumTo L L.length ≤ 524288
    · obtain ⟨xs, hx⟩ := packed_exists ((sumTo L L.length + 7) / 8) _ (stream L L.length) (stream_length L L.length) (by omega)
      refine ⟨xs, 0, by rw [hx.len]; omega, fun a cap W hr => ?_, fun a cap W hr => ?_⟩
      · have : ∃ b off, RdN W b off L ∧ (a = some ⟨b, off, none⟩ ∨ L.length = 0) := by
          rcases hr with rfl | ⟨b, off, e, h⟩
          · exact ⟨0, 0, rdN_nil W, .inr rfl⟩
          · exact ⟨b, off, h, .inl e⟩
        obtain ⟨b, off, h1, h2⟩ := this
        refine (put_yes b off cap L W h1 hv hl hS hok a h2).mono ?_
        rintro e W' ⟨g, N, ys, rfl, rfl, hp, hR, hg, _, hb⟩
        exact ⟨_, rfl, own_packed hR hg hp hx, hb⟩
      · refine (refPut_yes a cap L W hr hv hl hS hok _ rfl).mono ?_
        rintro e W' ⟨g, ys, rfl, hR, hp, hg, hb⟩
        exact ⟨_, rfl, own_packed hR hg hp hx, hb⟩
    · have h0 : 0 < L.length := by
        rcases Nat.eq_zero_or_pos L.length with h | h
        · rw [h] at hS; simp [sumTo] at hS
        · exact h
      refine ⟨[], 3, by simp, fun a cap W hr => ?_, fun a cap W hr => ?_⟩
      · obtain ⟨b, off, rfl, hR⟩ := rdL_some hr h0
        exact (put_big b off cap L W hR hv hl (by omega) hok).mono (fun e W' ⟨k1, k2⟩ => ⟨_, k1, Own8.nil _ _, k2⟩)
      · exact (refPut_big a cap L W hr hv hl (by omega) hok).mono (fun e W' ⟨k1, k2⟩ => ⟨_, k1, Own8.nil _ _, k2⟩)
  · obtain ⟨i0, h0, hb, hk⟩ := first_bad L hok
    refine ⟨[], 1, by simp, fun a cap W hr => ?_, fun a cap W hr => ?_⟩
    · obtain ⟨b, off, e, hR⟩ := rdL_some hr (by omega)
      exact (put_bad b off cap i0 L W hR hv hl h0 hk (fun _ => hb) a (.inl e)).mono (fun e W' ⟨k1, k2⟩ => ⟨_, k1, Own8.nil _ _, k2⟩)
    · exact (refPut_bad a cap i0 L W hr hv hl h0 hk (fun _ => hb)).mono (fun e W' ⟨k1, k2⟩ => ⟨_, k1, Own8.nil _ _, k2⟩)
theorem puts_long (a : Option Addr) (k cap : Nat) (w : World) (hl : 20000 < k) : Calls Tryz.prog 3 #[.slice a k cap] w fun e w' => e = .returned (.bool true) ∧ Below w.heap.size w w' := by
  have h1 : (20000 : Int) < (k : Int) := by omega
  have h2 : ¬ (k : Int) ≤ 20000 := by omega
  clear hl
  go_enter Tryz.func3, Tryz.ntmps3
  go_wp2
  go_ret
  exact ⟨rfl, Below.refl _ _⟩
set_option maxRecDepth 100000 in
set_option maxHeartbeats 4000000 in
theorem puts_walk (a : Option Addr) (cap : Nat) (L : List (Int × Nat)) (w : World) (hr : RdL w a L) (hv : ∀ j (h : j < L.length), L[j].2 < top) (hl : L.length ≤ 20000) : Calls Tryz.prog 3 #[.slice a L.length cap] w fun e w' => e = .returned (.bool true) ∧ Below w.heap.size w w' := by
  obtain ⟨ys, er, hy, P1, P2⟩ := puts_same L hv (by omega)
  have HP1 := hide P1; have HP2 := hide P2; have HY := hide hy; have HR := hide hr
  have HT := hide (twinN_any a cap L w (by omega) hr)
  have h1 : ¬ (20000 : Int) < (L.length : Int) := by omega
  have h2 : (L.length : Int) ≤ 20000 := by omega
  clear P1 P2 hy hr hv
  go_enter Tryz.func3, Tryz.ntmps3
  go_wp2_with fail
  refine HT.out.mono ?_
  rintro e w1 ⟨g, c, rfl, ht, htc, hcm, hb1⟩
  have T1 := hide ht
  have R1 : Hid (RdL w1 (some ⟨g, 0, none⟩) L) := hide (.inr ⟨g, 0, rfl, ht.rd.take⟩)
  have B1 := hide hb1
  clear ht hb1 HT
  go_wp2_with fail
  refine (HP1.out _ _ _ R1.out).mono ?_
  rintro e w2 ⟨va, rfl, hoa, hb2⟩
  obtain ⟨aa, ca, rfl, _, _, _⟩ := hoa.shape
  have OA2 := hide hoa
  have B2 := hide hb2
  clear hoa hb2
  go_wp2_with fail
  refine (HP1.out _ _ _ (R1.out.below B2.out)).mono ?_
  rintro e w3 ⟨vm, rfl, hom, hb3⟩
  obtain ⟨am, cm, rfl, _, _, _⟩ := hom.shape
  have OM3 := hide hom
  have OA3 := hide (OA2.out.below hb3)
  have B3 := hide (below_step B2.out hb3)
  clear hom hb3
  go_wp2_with fail
  refine (HP2.out _ _ _ (HR.out.below (below_step B1.out B3.out))).mono ?_
  rintro e w4 ⟨vu, rfl, hou, hb4⟩
  obtain ⟨au, cu, rfl, _, _, _⟩ := hou.shape
  have OU4 := hide hou.rd.2
  have OM4 := hide (OM3.out.below hb4)
  have OA4 := hide (OA3.out.below hb4)
  have B4 := hide (below_step B3.out hb4)
  clear hou hb4
  have HS1 := hide (same_rd ys (by have := HY.out; omega) aa au ca cu w4 OA4.out.rd.2 OU4.out)
  go_wp2_with fail
  refine HS1.out.mono ?_
  rintro e w5 ⟨rfl, hb5⟩
  have B45 := hide hb5
  have HS2 := hide (same_rd ys (by have := HY.out; omega) am au cm cu w5 (OM4.out.below hb5).rd.2 (OU4.out.below hb5))
  clear hb5 HS1
  go_wp2_with fail
  refine HS2.out.mono ?_
  rintro e w6 ⟨rfl, hb6⟩
  have B46 := hide (below_step B45.out hb6)
  have B6 := hide (below_step B4.out B46.out)
  clear hb6 HS2
  have HL := hide (leftN_yes g c a cap L w6 (by omega) (HR.out.below (below_step B1.out B6.out)) htc (by unfold maxLen at hcm; omega) (T1.out.below B6.out).rd)
  go_wp2_with fail
  refine HL.out.mono ?_
  rintro e w9 ⟨rfl, hb9⟩
  have B49 := hide (below_step B46.out hb9)
  have B9 := hide (below_step B4.out B49.out)
  clear hb9
  have z2 := B2.out.size
  have S9 := hide (Bo3.start (w := w) (B := w1.heap.size) (us := [(.slice aa ys.length ca, ys), (.slice am ys.length cm, ys)]) (below_step B1.out B9.out) B1.out.size B9.out.size (fun u hu => by
    simp only [List.mem_cons, List.not_mem_nil, or_false] at hu
    have hy := HY.out
    rcases hu with rfl | rfl
    · exact ⟨OA4.out.below B49.out, by show ys.length ≤ _; omega⟩
    · exact ⟨own8_lower (OM4.out.below B49.out) z2, by show ys.length ≤ _; omega⟩) (by
    refine List.pairwise_cons.2 ⟨fun v hv b e1 e2 => ?_, List.pairwise_singleton _ _⟩
    obtain rfl := List.mem_singleton.1 hv
    have g1 := (World.ownsRow.lt OA2.out b e1).2
    have g2 := (World.ownsRow.lt OM3.out b e2).1
    omega) 61)
  clear z2
  go_wp2_with (refine wpList_storeZ rfl 61 _ _ rfl _ bk0 61 rfl rfl bk_size (one_alloc _ _ _) bk0_one ?_)
  refine (S9.out.step (by simp) (by omega)).mono ?_
  rintro e w10 ⟨rfl, vb1, hs1, h1, hl1⟩
  have S10 := hide h1
  have L10 := hide hl1
  clear h1 hl1
  go_wp2_with fail
  refine (S10.out.step (by rw [L10.out]; simp) (by omega)).mono ?_
  rintro e w11 ⟨rfl, vb2, hs2, h1, hl1⟩
  have S11 := hide h1
  clear h1 hl1
  go_wp2_with fail
  refine S11.out.apart.mono ?_
  rintro e w12 ⟨rfl, hb⟩
  go_wp2
  go_ret
  exact ⟨rfl, hb⟩
end Go.Proofs.YtfniomfcfodojaaGreatDoor
