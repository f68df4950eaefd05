/- A fact that is hidden from the walk. -/
import Derived.Test.YtnihneicoikdhaaGreatDoorProg
import Derived.WalkKit
namespace Go.Proofs.YtnihneicoikdhaaGreatDoor
open Go.RowKit

theorem hide {p : Prop} (h : p) : Hid p := h
theorem unhide {p : Prop} (h : Hid p) : p := h
end Go.Proofs.YtnihneicoikdhaaGreatDoor
