/- Lines of a text: lex.linesIn counts bytes 10. -/
import Derived.Test.YtfanhdjebmdniaaGreatDoorUE
import Derived.Laws.RangeAny
namespace Go.Proofs.YtfanhdjebmdniaaGreatDoor
open Go.RowKit

def c10 (l : List UInt8) : Nat := l.count 10
theorem c10_app (a b : List UInt8) : c10 (a ++ b) = c10 a + c10 b := by simp [c10]
theorem c10_nil : c10 [] = 0 := rfl
theorem c10_le (l : List UInt8) : c10 l ≤ l.length := List.count_le_length
/- what a rune that is no byte below 128 eats has no byte 10. -/
theorem dec_eats (s : ByteArray) (pos : Nat) (h : pos < s.size) (ha : 128 ≤ (s[pos]'h).toNat) : pos + (Utf8.decode s pos).2 ≤ s.size ∧ ∀ j, pos ≤ j → j < pos + (Utf8.decode s pos).2 → 128 ≤ (s.get! j).toNat := by
  have e0 : s.get! pos = s[pos]'h := get_at s pos h
  have hn : ¬ (s[pos]'h).toNat < 128 := by omega
  have one : pos + 1 ≤ s.size ∧ ∀ j, pos ≤ j → j < pos + 1 → 128 ≤ (s.get! j).toNat := ⟨by omega, fun j h1 h2 => by
    obtain rfl : j = pos := by omega
    rw [e0]; exact ha⟩
  simp only [Utf8.decode, get_at s pos h, hn, if_false]
  split
  · rename_i h2
    simp at h2
    split
    · refine ⟨by show pos + 2 ≤ _; omega, fun j h1 h3 => ?_⟩
      have h3' : j < pos + 2 := h3
      rcases (by omega : j = pos ∨ j = pos + 1) with rfl | rfl
      · rw [e0]; exact ha
      · have := h2.2.2; omega
    · exact one
  · split
    · rename_i h2
      simp at h2
      split
      · refine ⟨by show pos + 3 ≤ _; omega, fun j h1 h3 => ?_⟩
        have h3' : j < pos + 3 := h3
        rcases (by omega : j = pos ∨ j = pos + 1 ∨ j = pos + 2) with rfl | rfl | rfl
        · rw [e0]; exact ha
        · have := h2.1.2.2; omega
        · have := h2.2.2; omega
      · exact one
    · split
      · rename_i h2
        simp at h2
        split
        · refine ⟨by show pos + 4 ≤ _; omega, fun j h1 h3 => ?_⟩
          have h3' : j < pos + 4 := h3
          rcases (by omega : j = pos ∨ j = pos + 1 ∨ j = pos + 2 ∨ j = pos + 3) with rfl | rfl | rfl | rfl
          · rw [e0]; exact ha
          · have := h2.1.1.2.2; omega
          · have := h2.1.2.2; omega
          · have := h2.2.2; omega
        · exact one
      · exact one
theorem txt_getB (l : List UInt8) (j : Nat) (h : j < l.length) : (txt l).get! j = l[j] := by
  have h' : j < (txt l).size := by rw [txt_size]; exact h
  have := get_at (txt l) j h'
  rw [Nat.add_zero] at this
  rw [this]
  simp [txt, ByteArray.getElem_eq_getElem_data]
theorem c10_high {l : List UInt8} {p k : Nat} (hk : p + k ≤ l.length) (h : ∀ j (hj : j < l.length), p ≤ j → j < p + k → 128 ≤ (l[j]).toNat) : c10 (l.take (p + k)) = c10 (l.take p) := by
  induction k with
  | zero => rfl
  | succ k ih =>
    have hb := h (p + k) (by omega) (by omega) (by omega)
    have h0 : l[p + k] ≠ 10 := fun e => by rw [e] at hb; exact absurd hb (by decide)
    have hlt : p + k < l.length := by omega
    have e1 : l.take (p + (k + 1)) = l.take (p + k) ++ [l[p + k]] := List.take_succ_eq_append_getElem hlt
    rw [e1, c10_app, ih (by omega) (fun j hj h1 h2 => h j hj h1 (by omega))]
    simp [c10, h0]
set_option maxRecDepth 100000 in
theorem linesIn_any (l : List UInt8) (hl : l.length ≤ 1000000) (w : World) :
    Calls Tryz.prog 212 #[.string (txt l)] w fun e w' => e = .returned (.int .i64 ((c10 l : Nat) : Int)) ∧ Below w.heap.size w w' := by
  obtain ⟨T, hT⟩ : ∃ T, T = txt l := ⟨_, rfl⟩
  have hsz : T.size = l.length := by rw [hT, txt_size]
  have HZ := hide hsz
  have HG : Hid (∀ (k : Nat) (h : k < T.size) (h' : k < l.length), T[k] = l[k]) := fun k h h' => by subst hT; simp [txt, ByteArray.getElem_eq_getElem_data]
  have HG2 : Hid (∀ (k : Nat) (h' : k < l.length), T.get! k = l[k]) := fun k h' => by subst hT; exact txt_getB l k h'
  rw [← hT]
  have hTl : T.size ≤ 1000000 := by omega
  clear hT hl hsz
  go_enter Tryz.func212, Tryz.ntmps212
  go_wp2
  go_loopw [3] (fun vn wr => ∃ (p n : Nat), wr = w.iter T p ∧ vn = .int .i64 (n : Int) ∧ p ≤ T.size ∧ n ≤ p ∧ Hid (n = c10 (l.take p))) (fun _ wr => T.size - wr.iterPos w.heap.size)
  case atStart => exact ⟨0, 0, rfl, rfl, by omega, by omega, by simp [Hid, c10]⟩
  case round =>
    obtain ⟨p, n, rfl, rfl, hp, hnp, HN⟩ := hrel
    by_cases hlt : p < T.size
    · have hltl : p < l.length := by rw [← HZ.out]; exact hlt
      have hcg := HG.out p hlt hltl
      rcases Nat.lt_or_ge (T[p]).toNat 128 with ha | ha
      · have hnx := fun ty => run_next_ascii (P := Tryz.prog) w T p ty hlt ha
        have HS : Hid (∀ m : Nat, m = c10 [l[p]] → n + m = c10 (l.take (p + 1))) := fun m hm => by rw [List.take_succ_eq_append_getElem hltl, c10_app, ← HN.out, hm]
        by_cases h10 : (T[p]).toNat = 10
        · have h10i : (((T[p]).toNat : Nat) : Int) = 10 := by omega
          have HE : Hid (n + 1 = c10 (l.take (p + 1))) := HS.out 1 (by rw [← hcg]; have : T[p] = 10 := UInt8.toNat_inj.1 h10; rw [this]; rfl)
          clear HS HN hcg
          go_wp2
          go_roundw
          case rel => exact ⟨p + 1, n + 1, rfl, by congr 1, by omega, by omega, HE⟩
          case measure => simp; omega
        · have h10i : ¬ ((((T[p]).toNat : Nat) : Int) = 10) := by omega
          have HE : Hid (n = c10 (l.take (p + 1))) := HS.out 0 (by rw [← hcg]; have : ¬ T[p] = 10 := fun e => h10 (by rw [e]; rfl); simp [c10, this])
          clear HS HN hcg
          go_wp2
          go_roundw
          case rel => exact ⟨p + 1, n, rfl, rfl, by omega, by omega, HE⟩
          case measure => simp; omega
      · have hnx := fun ty => run_next_any (P := Tryz.prog) w T p ty hlt
        have hh := decode_high T p hlt ha
        have hd := dec_eats T p hlt ha
        have HE : Hid (n = c10 (l.take (p + (Utf8.decode T p).2))) := by
          unfold Hid
          rw [c10_high (by rw [← HZ.out]; exact hd.1) (fun j hj h1 h2 => by rw [← HG2.out j hj]; exact hd.2 j h1 h2), ← HN.out]
        have hr : ¬ ((((Utf8.decode T p).1 : Nat) : Int) = 10) := by omega
        have h1 := hd.1
        have h2 := hh.2
        clear hd hh HN hcg
        generalize (Utf8.decode T p).2 = k at *
        generalize (Utf8.decode T p).1 = r at *
        go_wp2
        go_roundw
        case rel => exact ⟨p + k, n, rfl, rfl, by omega, by omega, HE⟩
        case measure => simp; omega
    · have hnx := fun ty => run_next_end (P := Tryz.prog) w T p ty hlt
      have HE : Hid (n = c10 l) := by unfold Hid; rw [HN.out, List.take_of_length_le (by rw [← HZ.out]; omega)]
      clear HN
      go_wp2
      go_ret
      exact ⟨by rw [← HE.out]; rfl, (Below.refl _ _).alloc (Nat.le_refl _) _⟩
end Go.Proofs.YtfanhdjebmdniaaGreatDoor
