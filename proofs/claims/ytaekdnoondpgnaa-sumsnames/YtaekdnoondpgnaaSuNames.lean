/- pointsmanlaw03.SumsNames, walked. -/
import Derived.Test.YtaekdnoondpgnaaSuLaw
import Derived.Test.YtaekdnoondpgnaaSuRefB
namespace Go.Proofs.Ytaekdnoondpgnaa
open Go.RowKit

def NmS (w W : World) (x y z : Value) : Prop := Below w.heap.size w W ∧ x3 W w.heap.size x y z
theorem nmS_next {w W W' : World} {x y z : Value} (hb : Below W.heap.size W W') (h : NmS w W x y z) : NmS w W' x y z ∧ W'.cell? ⟨w.heap.size, 0, none⟩ = some x ∧ W'.cell? ⟨w.heap.size, 1, none⟩ = some y ∧ W'.cell? ⟨w.heap.size, 2, none⟩ = some z :=
  have k := h.2.below hb
  ⟨⟨h.1.trans (hb.mono h.1.size), k⟩, k⟩
theorem nmS_start (w : World) (x y z : Value) (t : TypeId) : NmS w (w.alloc (.cells #[x, y, z] t)).drew x y z := ⟨((Below.refl _ _).alloc (Nat.le_refl _) _).drew, x3_new w x y z t⟩
theorem nmS_all {w W : World} {x y z : Value} (h : NmS w W x y z) : NmS w W x y z ∧ W.cell? ⟨w.heap.size, 0, none⟩ = some x ∧ W.cell? ⟨w.heap.size, 1, none⟩ = some y ∧ W.cell? ⟨w.heap.size, 2, none⟩ = some z := ⟨h, h.2⟩
set_option maxRecDepth 100000 in
set_option maxHeartbeats 4000000 in
theorem names_law (n : Int) (s : ByteArray) (x y z : Nat) (w : World) (hx : x < 65536) (hy : y < 65536) (hz : z < 65536) :
    Calls Try.prog 4 #[.int .i64 n, .string s, .agg #[.int .u16 x, .int .u16 y, .int .u16 z]] w fun e w' => e = .returned (.bool true) ∧ Below w.heap.size w w' := by
  have HT := hide (fun W => turn_any x y z W hx hy hz)
  have HR := hide (fun W => rturn_any x y z W hx hy hz)
  have HF := hide (find_any s)
  have HG := hide (rfind_any s)
  have HN := hide (name_any n)
  have HM := hide (rname_any n)
  have HW := hide (width_any n)
  have HV := hide (rwidth_any n)
  generalize turnF x y z = T at *
  generalize findN s = F at *
  generalize nameB n = N at *
  generalize widW n = V at *
  have HS := hide (nmS_start w (.int .u16 x) (.int .u16 y) (.int .u16 z) 34)
  go_enter Try.func4, Try.ntmps4
  go_wp2_with fail
  go_region_held3 (fun w' => NmS w w' (.int .u16 x) (.int .u16 y) (.int .u16 z) ∧ w'.cell? ⟨w.heap.size, 0, none⟩ = some (.int .u16 x) ∧ w'.cell? ⟨w.heap.size, 1, none⟩ = some (.int .u16 y) ∧ w'.cell? ⟨w.heap.size, 2, none⟩ = some (.int .u16 z))
    (first | exact nmS_next (by assumption) (And.left (by assumption)) | assumption | exact nmS_all HS.out)
    (first
      | (go_at_call 14; refine (HW.out _).mono ?_; rintro e wn ⟨rfl, hb⟩)
      | (go_at_call 15; refine (HV.out _).mono ?_; rintro e wn ⟨rfl, rfl⟩)
      | (go_at_call 16; refine (HN.out _).mono ?_; rintro e wn ⟨rfl, hb⟩)
      | (go_at_call 17; refine (HM.out _).mono ?_; rintro e wn ⟨rfl, hb⟩)
      | (go_at_call 18; refine (HF.out _).mono ?_; rintro e wn ⟨rfl, hb⟩)
      | (go_at_call 19; refine (HG.out _).mono ?_; rintro e wn ⟨rfl, hb⟩)
      | (go_at_call 20; refine (HT.out _).mono ?_; rintro e wn ⟨rfl, hb⟩)
      | (go_at_call 21; refine (HR.out _).mono ?_; rintro e wn ⟨rfl, rfl⟩))
  all_goals
    go_wp2
    go_ret
    exact ⟨rfl, (And.left (And.left (by assumption)))⟩
end Go.Proofs.Ytaekdnoondpgnaa
