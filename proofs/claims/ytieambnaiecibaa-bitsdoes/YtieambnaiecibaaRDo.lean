/- The document's own Do. -/
import Derived.Test.YtieambnaiecibaaRVal
namespace Go.Proofs.Ytieambnaiecibaa
open Go.RowKit

theorem okN_parts {n : Int} {v : Nat} (h : okN n v = true) : 1 ≤ n ∧ n ≤ 128 ∧ v < 2 ^ n.toNat ∧ v < top := by
  have h' : (1 ≤ n ∧ n ≤ 128) ∧ v < 2 ^ n.toNat := by simpa [okN, mayBe] using h
  exact ⟨h'.1.1, h'.1.2, h'.2, Nat.lt_of_lt_of_le h'.2 (pow_le_top (by omega))⟩

end Go.Proofs.Ytieambnaiecibaa
