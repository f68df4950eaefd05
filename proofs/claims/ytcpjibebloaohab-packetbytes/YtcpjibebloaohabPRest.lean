/- Rest. -/
import Derived.Test.YtcpjibebloaohabPCell
import Derived.Test.YtcpjibebloaohabPNew
namespace Go.Proofs.Ytcpjibebloaohab
open Go.RowKit Go.Shelf

theorem undrew {w w' : World} (h : Below w.drew.heap.size w.drew w') : Below w.heap.size w w' := ⟨h.os, h.tape, h.output, h.size, h.block⟩
theorem begun_any (t : Nat) (w : World) (ht : t < 1099511627776) : Calls Try.prog 21 #[.agg #[.int .i64 t]] w fun e w' => e = .returned (.int .i64 (((t + 7) / 8 : Nat) : Int)) ∧ Below w.heap.size w w' := by
  have H := hide (pcount_any t · ht)
  go_enter Try.func21, Try.ntmps21
  go_wp2_with fail
  refine (H.out _).mono ?_
  rintro e w1 ⟨rfl, hw⟩
  subst hw
  go_wp2
  go_ret
  exact ⟨rfl, (Below.refl _ _).alloc (Nat.le_refl _) _⟩
set_option maxRecDepth 100000 in
set_option maxHeartbeats 2000000 in
theorem rest_some {w : World} {g p off : Nat} {cap : Nat} {xs : List Nat} {t k : Nat} (h : Cur w g (some ⟨p, off, none⟩) cap xs t) (hcap : xs.length ≤ cap) (hxl : xs.length ≤ 100000) (ht : t ≤ 8 * xs.length) (hk : k = (t + 7) / 8) :
    Calls Try.prog 10 #[.pointer (some ⟨g, 0, none⟩)] w fun e w' => ∃ q c, e = .returned (.slice (some ⟨q, 0, none⟩) (xs.length - k) c) ∧ (∀ i (h : i < (xs.drop k).length), w'.cell? ⟨q, 0 + i, none⟩ = some (.int .u8 ((xs.drop k)[i] : Nat))) ∧ Below w.heap.size w w' := by
  have hkl : k ≤ xs.length := by omega
  have hkI : (k : Int) ≤ (xs.length : Int) := by omega
  have hkc : (k : Int) ≤ (cap : Int) := by omega
  have HI := hide (isThere_any h)
  have HG := hide (fun W => begun_any t W (by omega))
  rw [← hk] at HG
  have HC := hide h
  obtain ⟨o', hck, ho'⟩ : ∃ o', ((cap = k ∧ o' = off) ∨ (¬ cap = k ∧ o' = off + k)) ∧ (xs.length = k ∨ o' = off + k) := by
    by_cases hck : cap = k
    · exact ⟨off, .inl ⟨hck, rfl⟩, .inl (by omega)⟩
    · exact ⟨off + k, .inr ⟨hck, rfl⟩, .inr rfl⟩
  have HCL : Hid (∀ W cc, Cur W g (some ⟨p, off, none⟩) cap xs t → Calls Try.prog 13 #[.slice (some ⟨p, o', none⟩) (xs.length - k) cc] W fun e w' => ∃ q c, e = .returned (.slice (some ⟨q, 0, none⟩) (xs.length - k) c) ∧ xs.length - k ≤ c ∧ W.heap.size ≤ q ∧ q < w'.heap.size ∧ (∀ i (h : i < (xs.drop k).length), w'.cell? ⟨q, 0 + i, none⟩ = some (.int .u8 ((xs.drop k)[i] : Nat))) ∧ Below W.heap.size W w') := fun W cc hW => by
    have h1 := clone_some p o' cc (xs.drop k) W (by simp; omega) (fun i hi => by
      have hi' : i < xs.length - k := by simpa using hi
      rcases ho' with e | rfl
      · omega
      · rcases hW.rd with ⟨e, _⟩ | ⟨p', f', e, _, hc⟩
        · cases e
        · cases e
          rw [show off + k + i = off + (k + i) by omega, hc (k + i) (by omega)]
          simp)
    rw [← List.length_drop]; exact h1
  clear h hk ho'
  rcases hck with ⟨hck, rfl⟩ | ⟨hck, rfl⟩
  all_goals
    refine (callsIn_wide (n := 3)).1 ?_
    refine callsIn_of_wp Try.func10 rfl trivial ?_ rfl
    simp only [Try.ntmps10, List.size_toArray, List.length_cons, List.length_nil, Nat.reduceAdd, Nat.reduceSub, Array.replicate_succ, Array.replicate_zero, List.push_toArray, List.append_toArray, List.nil_append, List.cons_append]
    have hmx : Try.prog.follows .mixedOrders = true := by kernel_rfl
    gi_wp2_with fail
    refine ⟨trivial, ?_⟩
    refine (callsIn_wide.2 HI.out).mono ?_
    rintro e w1 ⟨rfl, hb1⟩
    have K1 := hide (HC.out.keep hb1)
    have B1 := hide hb1
    have c0 := K1.out.c0
    have c1 := K1.out.c1
    clear hb1
    gi_wp2_with fail
    gi_region_with_o (first | (refine ⟨trivial, ?_⟩; gi_at_call 21; refine (callsIn_wide.2 (HG.out _)).mono ?_; rintro e w2 ⟨rfl, hb2d⟩; have hb2 := undrew hb2d; clear hb2d; have c2 := (hb2.cell (p := ⟨g, 1, none⟩) K1.out.lt).trans c1) | (refine ⟨trivial, ?_⟩; gi_at_call 13; refine (callsIn_wide.2 (HCL.out _ _ (K1.out.keep hb2))).mono ?_; rintro e w3 ⟨q, c, rfl, _, hq0, hq1, hr, hb3⟩; have HR := hide hr; have HB := hide (B1.out.trans ((hb2.trans (hb3.mono hb2.size)).mono B1.out.size)); clear hr hb3))
    all_goals
      gi_wp2
      go_ret
      exact ⟨q, c, rfl, HR.out, HB.out⟩
end Go.Proofs.Ytcpjibebloaohab
