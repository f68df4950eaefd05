/- A fact that is hidden from the walk. -/
import Derived.Test.YthkhdmdllhbfeaaProg
import Derived.WalkKit
namespace Go.Proofs.Ythkhdmdllhbfeaa
open Go.RowKit

theorem hide {p : Prop} (h : p) : Hid p := h
theorem unhide {p : Prop} (h : Hid p) : p := h
end Go.Proofs.Ythkhdmdllhbfeaa
