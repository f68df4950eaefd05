/- alive; Words where it gives words and where it gives none. -/
import Derived.Test.YtfanhdjebmdniaaGreatDoorLO
namespace Go.Proofs.YtfanhdjebmdniaaGreatDoor
open Go.RowKit

theorem words_ok {s : List UInt8} {xs : List (Wd × Nat)} (h : toks s = .ok xs) (hl : s.length ≤ 65536) (T : ByteArray) (hT : T = txt s) (W : World) (hL : Ls W) :
    Calls Tryz.prog 7 #[.string T] W fun e w' => ∃ v, e = .returned (.tuple #[v, .int .i64 0, .int .i64 0]) ∧ OwnW w' W.heap.size v xs ∧ xs.length ≤ 65536 ∧ Below W.heap.size W w' := by
  subst hT
  refine (words_any s W hL (by omega)).mono ?_
  rintro e w' ⟨hb, ⟨h1, _⟩ | ⟨_, ⟨k, h1, _⟩ | ⟨ys, v, h1, h2, h3, h4⟩⟩⟩
  · omega
  · rw [h] at h1; cases h1
  · rw [h] at h1; cases h1; exact ⟨v, h4, h3, h2, hb⟩
theorem words_err {s : List UInt8} {k : Nat} (h : toks s = .error k) (hl : s.length ≤ 65536) (T : ByteArray) (hT : T = txt s) (W : World) (hL : Ls W) :
    Calls Tryz.prog 7 #[.string T] W fun e w' => e = .returned (.tuple #[.slice none 0 0, .int .i64 (k : Int), .int .i64 4]) ∧ Below W.heap.size W w' := by
  subst hT
  refine (words_any s W hL (by omega)).mono ?_
  rintro e w' ⟨hb, ⟨h1, _⟩ | ⟨_, ⟨j, h1, h2⟩ | ⟨ys, v, h1, _⟩⟩⟩
  · omega
  · rw [h] at h1; cases h1; exact ⟨h2, hb⟩
  · rw [h] at h1; cases h1
theorem OwnW.keep {W W' : World} {B : Nat} {v : Value} {xs : List (Wd × Nat)} (h : OwnW W B v xs) (hb : Below W.heap.size W W') : OwnW W' B v xs := by
  obtain ⟨hl, h0 | ⟨g, cap, cur, hv, h1, hh, r⟩⟩ := h
  · exact ⟨hl, .inl h0⟩
  · exact ⟨hl, .inr ⟨g, cap, cur, hv, h1, (hb.block g (Array.getElem?_eq_some_iff.1 hh).1).trans hh, r⟩⟩
theorem slW_want (W : World) : SlW (W.alloc (.cells #[.int .u8 1, .string ⟨#[97]⟩, .int .i64 0, .int .u64 0, .int .u64 0, .int .i64 0, .int .u8 4, .string ⟨#[60, 60]⟩, .int .i64 0, .int .u64 0, .int .u64 0, .int .i64 0, .int .u8 3, .string ⟨#[]⟩, .int .i64 12, .int .u64 0, .int .u64 31, .int .i64 0, .int .u8 4, .string ⟨#[59]⟩, .int .i64 0, .int .u64 0, .int .u64 0, .int .i64 0, .int .u8 2, .string ⟨#[]⟩, .int .i64 64, .int .u64 0, .int .u64 7, .int .i64 1] 68)) (.slice (some ⟨W.heap.size, 0, none⟩) 5 5) want5 := by
  have := slW_lit W want5 68 5
  exact this
set_option maxRecDepth 100000 in
theorem alive7 (w : World) (hL : Ls w) : Calls Tryz.prog 12 #[] w fun e w' => e = .returned (.bool true) ∧ Below w.heap.size w w' := by
  have H1 : Hid (∀ T W, T = txt al1 → Ls W → _) := fun T W hT h => words_ok toks_al1 (by decide) T hT W h
  have H2 : Hid (∀ T W, T = txt al2 → Ls W → _) := fun T W hT h => words_err toks_al2 (by decide) T hT W h
  have HS : Hid (∀ va vb W, SlW W va want5 → SlW W vb want5 → _) := fun va vb W h1 h2 => sameW_yes want5 va vb W (by decide) h1 h2
  have HL := hide hL
  clear hL
  go_enter Tryz.func12, Tryz.ntmps12
  go_wp2_with fail
  refine (H1.out _ _ (by kernel_rfl) HL.out).mono ?_
  rintro e w1 ⟨v, rfl, ho, _, hb⟩
  have HB1 := hide hb
  have HO1 := hide ho.sl
  clear hb ho
  go_wp2_with fail
  refine (H2.out _ _ (by kernel_rfl) (HL.out.below HB1.out)).mono ?_
  rintro e w2 ⟨rfl, hb⟩
  have HB2 := hide (HB1.out.trans (hb.mono HB1.out.size))
  have HO2 := hide (HO1.out.keep hb)
  clear hb
  go_wp2_with fail
  refine (HS.out _ _ _ (HO2.out.keep ((Below.refl _ _).alloc (Nat.le_refl _) _)) (slW_want w2)).mono ?_
  rintro e w3 ⟨rfl, hb⟩
  have HB3 : Hid (Below w.heap.size w w3) := (HB2.out.alloc HB2.out.size _).trans (hb.mono (by have := HB2.out.size; simp; omega))
  clear hb
  go_wp2
  go_ret
  exact ⟨rfl, HB3.out⟩
end Go.Proofs.YtfanhdjebmdniaaGreatDoor
