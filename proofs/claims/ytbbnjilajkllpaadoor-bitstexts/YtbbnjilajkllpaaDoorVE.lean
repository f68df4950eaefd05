/- Text and Parse, the program's and the document's, give one answer; the law BitsTexts. -/
import Derived.Test.YtbbnjilajkllpaaDoorVD
namespace Go.Proofs.YtbbnjilajkllpaaDoor
open Go.RowKit

theorem text_same (n : Int) (v : Nat) (hv : v < top) : ∃ (R : ByteArray) (er : Int),
    (∀ W, Ld W → Calls Tryd.prog 4 #[.agg #[.int .i64 n, .int .u64 (wHi v), .int .u64 (wLo v)]] W fun e w' => e = .returned (.tuple #[.string R, .int .i64 er]) ∧ Below W.heap.size W w') ∧
    (∀ W, Calls Tryd.prog 5 #[.agg #[.int .i64 n, .int .u64 (wHi v), .int .u64 (wLo v)]] W fun e w' => e = .returned (.tuple #[.string R, .int .i64 er]) ∧ Below W.heap.size W w') := by
  by_cases ho : okN n v = true
  · have hb := okN_bd ho
    obtain ⟨N, rfl⟩ : ∃ N : Nat, n = (N : Int) := ⟨n.toNat, by omega⟩
    refine ⟨txt (tx N v), 0, fun W h => ?_, fun W => refText_yes N v W hv ho⟩
    have := text_yes N v W h hv ho
    rw [Int.toNat_natCast] at this
    exact this
  · have ho' : okN n v = false := by simpa using ho
    exact ⟨txt [], 1, fun W _ => text_no n v W hv ho', fun W => refText_no n v W hv ho'⟩
theorem prsV_shape (p : Option (Nat × Nat)) : ∃ a b c e : Int, prsV p = .tuple #[.agg #[.int .i64 a, .int .u64 b, .int .u64 c], .int .i64 e] := by
  cases p with
  | none => exact ⟨0, 0, 0, 8, rfl⟩
  | some p => exact ⟨_, _, _, 0, rfl⟩
theorem parse_same (l : List UInt8) (hl : l.length ≤ 281474976710656) : ∃ a b c er : Int,
    (∀ W, Ld W → Calls Tryd.prog 6 #[.string (txt l)] W fun e w' => e = .returned (.tuple #[.agg #[.int .i64 a, .int .u64 b, .int .u64 c], .int .i64 er]) ∧ Below W.heap.size W w') ∧
    (∀ W, Calls Tryd.prog 7 #[.string (txt l)] W fun e w' => e = .returned (.tuple #[.agg #[.int .i64 a, .int .u64 b, .int .u64 c], .int .i64 er]) ∧ Below W.heap.size W w') := by
  obtain ⟨a, b, c, er, h⟩ := prsV_shape (prs l)
  refine ⟨a, b, c, er, fun W hW => ?_, fun W => ?_⟩
  · have := parse_any l hl W hW
    rw [h] at this
    exact this
  · have := refParse_any l hl W
    rw [h] at this
    exact this
theorem cells3U {w w1 : World} {a b c : Value} {t : TypeId} (h : w.heap[w1.heap.size]? = some (.cells #[a, b, c] t (0, 0))) : w.cell? ⟨w1.heap.size, 0, none⟩ = some a ∧ w.cell? ⟨w1.heap.size, 1, none⟩ = some b ∧ w.cell? ⟨w1.heap.size, 2, none⟩ = some c := by
  simp [World.cell?, h]
set_option maxRecDepth 100000 in
theorem texts_walk (n : Int) (v : Nat) (l : List UInt8) (w : World) (hv : v < top) (hl : l.length ≤ 281474976710656) (hL : Ld w) :
    Calls Tryd.prog 3 #[.agg #[.int .i64 n, .int .u64 (wHi v), .int .u64 (wLo v)], .string (txt l)] w fun e w' => e = .returned (.bool true) ∧ Below w.heap.size w w' := by
  obtain ⟨R, er, hT, hRT⟩ := text_same n v hv
  obtain ⟨a, b, c, ep, hP, hRP⟩ := parse_same l hl
  have HT := hide hT; have HRT := hide hRT; have HP := hide hP; have HRP := hide hRP; have HL := hide hL
  clear hT hRT hP hRP hL hv hl
  generalize wHi v = h1 at *
  generalize wLo v = l1 at *
  generalize txt l = T at *
  go_enter Tryd.func3, Tryd.ntmps3
  go_wp2_with fail
  refine (HT.out _ (HL.out.below ((Below.refl _ _).alloc (Nat.le_refl _) _))).mono ?_
  rintro e w1 ⟨rfl, hb⟩
  obtain ⟨k0, k1, k2⟩ := cells3T hb
  have HW1 : Hid (Below w.heap.size w w1) := ((Below.refl _ _).alloc (Nat.le_refl _) _).trans (hb.mono (by simp))
  clear hb
  go_wp2_with fail
  refine (HRT.out _).mono ?_
  rintro e w2 ⟨rfl, hb⟩
  have HW2 : Hid (Below w.heap.size w w2) := HW1.out.trans (hb.mono HW1.out.size)
  clear hb k0 k1 k2
  go_wp2_with fail
  refine (HP.out _ (HL.out.below HW2.out)).mono ?_
  rintro e w3 ⟨rfl, hb⟩
  have HW3 : Hid (Below w.heap.size w w3) := HW2.out.trans (hb.mono HW2.out.size)
  clear hb
  go_wp2_with fail
  refine (HRP.out _).mono ?_
  rintro e w4 ⟨rfl, hb⟩
  obtain ⟨k0, k1, k2⟩ := cells3T hb
  have HW4 : Hid (Below w.heap.size w w4) := (HW3.out.alloc HW3.out.size _).trans (hb.mono (by have := HW3.out.size; simp; omega))
  have hlt : w3.heap.size < w4.heap.size := by have := hb.size; simp at this; omega
  clear hb
  go_wp2
  go_ret
  exact ⟨rfl, HW4.out.alloc HW4.out.size _⟩
end Go.Proofs.YtbbnjilajkllpaaDoor
