/- alive: some answers that the document fixes. -/
import Derived.Test.YtfanhdjebmdniaaGreatDoorLN
import Derived.Test.YtfanhdjebmdniaaGreatDoorLP
namespace Go.Proofs.YtfanhdjebmdniaaGreatDoor
open Go.RowKit

theorem skip_of {r r' : List UInt8} (h1 : r.dropWhile isBl = r') (h2 : isRem r' = false) : skip r = r' := by unfold skip; rw [h1, skR_no h2]
def al1 : List UInt8 := [97, 60, 60, 49, 50, 119, 49, 102, 59, 47, 47, 32, 115, 111, 10, 55]
def al2 : List UInt8 := [97, 10, 10, 36]
def want5 : List (Wd × Nat) := [(⟨1, [97], 0, 0⟩, 0), (⟨4, [60, 60], 0, 0⟩, 0), (⟨3, [], 12, 31⟩, 0), (⟨4, [59], 0, 0⟩, 0), (⟨2, [], 64, 7⟩, 1)]
theorem prs_12 : prs [49, 50, 119, 49, 102] = some (12, 31) := by
  have e : tx 12 31 = [49, 50, 119, 49, 102] := by
    unfold tx
    rw [dc_big (by decide), dc_small (by decide), hx_big (by decide), hx_small (by decide)]
    rfl
  rw [← e]
  exact prs_tx (by decide)
theorem whole_7 : wholeW [55] = some ⟨2, [], 64, 7⟩ := by
  unfold wholeW
  have h : puE 2147483647 [55] 10 = .ok 7 := by rfl
  rw [h]
  simp only
  rw [if_pos (by rw [dc_small (by decide)]; rfl)]
theorem w_a (r : List UInt8) (h : r.takeWhile isW = [97]) : wdA r = (some ⟨1, [97], 0, 0⟩, r.dropWhile isW) := by
  unfold wdA
  rw [h]
  rfl
theorem toks_al1 : toks al1 = .ok want5 := by
  have s1 : skip al1 = al1 := skip_of (by decide +kernel) (by decide +kernel)
  have d1 : wdA al1 = (some ⟨1, [97], 0, 0⟩, [60, 60, 49, 50, 119, 49, 102, 59, 47, 47, 32, 115, 111, 10, 55]) := by
    unfold wdA
    rw [show al1.takeWhile isW = [97] by decide +kernel, show al1.dropWhile isW = [60, 60, 49, 50, 119, 49, 102, 59, 47, 47, 32, 115, 111, 10, 55] by decide +kernel]
    rfl
  have s2 : skip [60, 60, 49, 50, 119, 49, 102, 59, 47, 47, 32, 115, 111, 10, 55] = [60, 60, 49, 50, 119, 49, 102, 59, 47, 47, 32, 115, 111, 10, 55] := skip_of (by decide +kernel) (by decide +kernel)
  have d2 : wdA [60, 60, 49, 50, 119, 49, 102, 59, 47, 47, 32, 115, 111, 10, 55] = (some ⟨4, [60, 60], 0, 0⟩, [49, 50, 119, 49, 102, 59, 47, 47, 32, 115, 111, 10, 55]) := by
    unfold wdA
    rw [show ([60, 60, 49, 50, 119, 49, 102, 59, 47, 47, 32, 115, 111, 10, 55] : List UInt8).takeWhile isW = [] by decide +kernel, show ([60, 60, 49, 50, 119, 49, 102, 59, 47, 47, 32, 115, 111, 10, 55] : List UInt8).dropWhile isW = [60, 60, 49, 50, 119, 49, 102, 59, 47, 47, 32, 115, 111, 10, 55] by decide +kernel]
    simp only [wd1]
    rw [show sgn [60, 60, 49, 50, 119, 49, 102, 59, 47, 47, 32, 115, 111, 10, 55] = [60, 60] by decide +kernel]
    rfl
  have s3 : skip [49, 50, 119, 49, 102, 59, 47, 47, 32, 115, 111, 10, 55] = [49, 50, 119, 49, 102, 59, 47, 47, 32, 115, 111, 10, 55] := skip_of (by decide +kernel) (by decide +kernel)
  have d3 : wdA [49, 50, 119, 49, 102, 59, 47, 47, 32, 115, 111, 10, 55] = (some ⟨3, [], 12, 31⟩, [59, 47, 47, 32, 115, 111, 10, 55]) := by
    unfold wdA
    rw [show ([49, 50, 119, 49, 102, 59, 47, 47, 32, 115, 111, 10, 55] : List UInt8).takeWhile isW = [49, 50, 119, 49, 102] by decide +kernel, show ([49, 50, 119, 49, 102, 59, 47, 47, 32, 115, 111, 10, 55] : List UInt8).dropWhile isW = [59, 47, 47, 32, 115, 111, 10, 55] by decide +kernel]
    unfold wd1
    simp only
    rw [show isD 49 = true by decide +kernel, show ([49, 50, 119, 49, 102] : List UInt8).all isD = false by decide +kernel]
    simp only [if_true, Bool.false_eq_true, if_false]
    unfold numW
    rw [prs_12]
  have s4 : skip [59, 47, 47, 32, 115, 111, 10, 55] = [59, 47, 47, 32, 115, 111, 10, 55] := skip_of (by decide +kernel) (by decide +kernel)
  have d4 : wdA [59, 47, 47, 32, 115, 111, 10, 55] = (some ⟨4, [59], 0, 0⟩, [47, 47, 32, 115, 111, 10, 55]) := by
    unfold wdA
    rw [show ([59, 47, 47, 32, 115, 111, 10, 55] : List UInt8).takeWhile isW = [] by decide +kernel, show ([59, 47, 47, 32, 115, 111, 10, 55] : List UInt8).dropWhile isW = [59, 47, 47, 32, 115, 111, 10, 55] by decide +kernel]
    simp only [wd1]
    rw [show sgn [59, 47, 47, 32, 115, 111, 10, 55] = [59] by decide +kernel]
    rfl
  have s5 : skip [47, 47, 32, 115, 111, 10, 55] = [55] := by
    unfold skip
    rw [show ([47, 47, 32, 115, 111, 10, 55] : List UInt8).dropWhile isBl = [47, 47, 32, 115, 111, 10, 55] by decide +kernel, skR_yes (by decide +kernel), show (([47, 47, 32, 115, 111, 10, 55] : List UInt8).dropWhile n10).dropWhile isBl = [55] by decide +kernel, skR_no (by decide +kernel)]
  have d5 : wdA [55] = (some ⟨2, [], 64, 7⟩, []) := by
    unfold wdA
    rw [show ([55] : List UInt8).takeWhile isW = [55] by decide +kernel, show ([55] : List UInt8).dropWhile isW = [] by decide +kernel]
    unfold wd1
    simp only
    rw [show isD 55 = true by decide +kernel, show ([55] : List UInt8).all isD = true by decide +kernel]
    simp only [if_true]
    rw [whole_7]
  have s6 : skip [] = [] := skip_of rfl rfl
  unfold toks
  rw [s1, tk_some (by decide) d1, s2, tk_some (by decide) d2, s3, tk_some (by decide) d3, s4, tk_some (by decide) d4, s5, tk_some (by decide) d5, s6, tk_nil]
  rfl
theorem toks_al2 : toks al2 = .error 2 := by
  have s1 : skip al2 = al2 := skip_of (by decide +kernel) (by decide +kernel)
  have d1 : wdA al2 = (some ⟨1, [97], 0, 0⟩, [10, 10, 36]) := by
    unfold wdA
    rw [show al2.takeWhile isW = [97] by decide +kernel, show al2.dropWhile isW = [10, 10, 36] by decide +kernel]
    rfl
  have s2 : skip [10, 10, 36] = [36] := skip_of (by decide +kernel) (by decide +kernel)
  have d2 : wdA [36] = (none, [36]) := by
    unfold wdA
    rw [show ([36] : List UInt8).takeWhile isW = [] by decide +kernel, show ([36] : List UInt8).dropWhile isW = [36] by decide +kernel]
    simp only [wd1]
    rw [show sgn [36] = [] by decide +kernel]
    rfl
  unfold toks
  rw [s1, tk_some (by decide) d1, s2, tk_none (by decide) d2]
  rfl
end Go.Proofs.YtfanhdjebmdniaaGreatDoor
