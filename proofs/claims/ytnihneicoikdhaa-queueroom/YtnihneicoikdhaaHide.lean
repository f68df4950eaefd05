/- A fact that is hidden from the walk. -/
import Derived.Test.YtnihneicoikdhaaProg
import Derived.WalkKit
namespace Go.Proofs.Ytnihneicoikdhaa
open Go.RowKit

theorem hide {p : Prop} (h : p) : Hid p := h
theorem unhide {p : Prop} (h : Hid p) : p := h
end Go.Proofs.Ytnihneicoikdhaa
