/- A drawn region walked once, in the text's order, over a class of worlds of one's own: its callees may make memory, and operations whose guard says no are passed over. No program stands in it. -/
import Derived.BigQuiet
namespace Go.Proofs.YtnihneicoikdhaaGreatDoor
open Go

theorem wp_region_class {P : Program} {X : Type} (f : X → World) {id : Nat} {Q : Exit → Act → World → Prop} {a : Act} {w : World} {l : List Oper} (hm : P.follows .mixedOrders = true) (hB : Region.lexB .any l.toArray = true) (hC : ∃ x, { w with drawn := w.drawn + 1 } = f x)
    (h : wpQuiet P l.toArray (fun w' => ∃ x, w' = f x) (fun a' => ∀ w', (∃ x, w' = f x) → Q .normal a' w') l a) : (Code.region id l.toArray true).wp P Q a w :=
  wp_region_quiet (C := fun w' => ∃ x, w' = f x) hm hB hC (by simpa using h)
theorem class_of (S : World → Prop) (w0 : World) (h : S w0) : ∃ (X : Type) (f : X → World), Nonempty X ∧ (∀ x, S (f x)) ∧ ∀ w', S w' → ∃ x, w' = f x :=
  ⟨{ w // S w }, Subtype.val, ⟨⟨w0, h⟩⟩, fun x => x.2, fun w' h => ⟨⟨w', h⟩, rfl⟩⟩
end Go.Proofs.YtnihneicoikdhaaGreatDoor
