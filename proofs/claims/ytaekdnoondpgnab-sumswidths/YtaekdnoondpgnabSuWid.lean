/- pointsmanlaw03.SumsWidths, walked. -/
import Derived.Test.YtaekdnoondpgnabSuLaw
import Derived.Test.YtaekdnoondpgnabSuBey
namespace Go.Proofs.Ytaekdnoondpgnab
open Go.RowKit

theorem wid_out (n : Int) (a : Option Addr) (m cap : Nat) (w : World) (h : 1048576 < m) (hm : m ≤ 9223372036854775807) : Calls Try.prog 3 #[.int .i64 n, .slice a m cap] w fun e w' => e = .returned (.bool true) ∧ Below w.heap.size w w' := by
  have HB := hide (fun W => beyond_any m hm W)
  simp only [decide_eq_true h] at HB
  go_enter Try.func3, Try.ntmps3
  go_wp2_with fail
  refine (salive_any _).mono ?_
  rintro e w1 ⟨rfl, hb1⟩
  go_wp2_with fail
  refine (HB.out _).mono ?_
  rintro e w2 ⟨rfl, hw2⟩
  have hb2 : Below w.heap.size w w2 := by rw [hw2]; exact hb1.alloc hb1.size _
  clear hw2 hb1
  go_wp2_with fail
  refine (salive_any _).mono ?_
  rintro e w3 ⟨rfl, hb3⟩
  go_wp2
  go_ret
  exact ⟨rfl, hb2.trans (hb3.mono hb2.size)⟩
theorem wid_no (n : Int) (h : ¬ (1 ≤ n ∧ n ≤ 4)) (a : Option Addr) (m cap : Nat) (w : World) (hm : m ≤ 1048576) : Calls Try.prog 3 #[.int .i64 n, .slice a m cap] w fun e w' => e = .returned (.bool true) ∧ Below w.heap.size w w' := by
  have HB := hide (fun W => beyond_any m (by omega) W)
  simp only [decide_eq_false (by omega : ¬ 1048576 < m)] at HB
  have HS := hide (fun v W => sum_no n v W h)
  have HW := hide (width_any n)
  have HN := hide (name_any n)
  rw [show widW n = 0 from if_neg h] at HW
  rw [show nameB n = { data := #[] } by unfold nameB; rw [if_neg (by omega), if_neg (by omega), if_neg (by omega), if_neg (by omega)]] at HN
  have hcond : (decide (n < 1) = true) ∨ (decide (n < 1) = false ∧ decide (n > 4) = true) := by
    by_cases h1 : n < 1
    · exact .inl (by simp; omega)
    · exact .inr ⟨by simp; omega, by simp; omega⟩
  clear h
  go_enter Try.func3, Try.ntmps3
  go_wp2_with fail
  refine (salive_any _).mono ?_
  rintro e w1 ⟨rfl, hb1⟩
  go_wp2_with fail
  refine (HB.out _).mono ?_
  rintro e w2 ⟨rfl, hw2⟩
  have hb2 : Below w.heap.size w w2 := by rw [hw2]; exact hb1.alloc hb1.size _
  clear hw2 hb1
  go_wp2_with fail
  refine (HS.out _ _).mono ?_
  rintro e w3 ⟨rfl, hb3⟩
  have B3 := hide ((hb2.trans (hb3.mono hb2.size)).alloc (Nat.le_trans hb2.size hb3.size) (.cells #[.int .i64 0, .int .u64 0, .int .u64 0] 27))
  clear hb2 hb3
  rcases hcond with hc | ⟨hc, hc2⟩
  all_goals
    go_wp2_with fail
    refine (HW.out _).mono ?_
    rintro e w4 ⟨rfl, hb4⟩
    have B4 := hide (B3.out.trans (hb4.mono B3.out.size))
    clear hb4
    go_wp2_with fail
    refine (HN.out _).mono ?_
    rintro e w5 ⟨rfl, hb5⟩
    have B5 := hide (B4.out.trans (hb5.mono B4.out.size))
    clear hb5
    go_wp2
    go_ret
    exact ⟨rfl, B5.out⟩
def WdS (w W : World) (b : Nat) (x y z : Value) : Prop := Below w.heap.size w W ∧ x3 W b x y z
theorem wdS_next {w W W' : World} {b : Nat} {x y z : Value} (hb : Below W.heap.size W W') (h : WdS w W b x y z) : WdS w W' b x y z ∧ W'.cell? ⟨b, 0, none⟩ = some x ∧ W'.cell? ⟨b, 1, none⟩ = some y ∧ W'.cell? ⟨b, 2, none⟩ = some z :=
  have k := h.2.below hb
  ⟨⟨h.1.trans (hb.mono h.1.size), k⟩, k⟩
theorem wdS_all {w W : World} {b : Nat} {x y z : Value} (h : WdS w W b x y z) : WdS w W b x y z ∧ W.cell? ⟨b, 0, none⟩ = some x ∧ W.cell? ⟨b, 1, none⟩ = some y ∧ W.cell? ⟨b, 2, none⟩ = some z := ⟨h, h.2⟩
theorem wid_shift (n : Int) (h0 : 1 ≤ n) (h1 : n ≤ 4) (xs : List Nat) (hx : ∀ y ∈ xs, y < 256) : ((sumF n xs : Nat) : Int) / 2 ^ (widW n).toNat = 0 := by
  have h := sumF_lt n xs hx
  have e : (widW n).toNat = widF n := by
    unfold widW widF
    rw [if_pos ⟨h0, h1⟩]
    split <;> rfl
  rw [e]
  have e2 : ((2 : Int) ^ widF n) = ((2 ^ widF n : Nat) : Int) := by simp
  rw [e2]
  exact Int.ediv_eq_zero_of_lt (by omega) (by exact_mod_cast h)
set_option maxRecDepth 100000 in
set_option maxHeartbeats 4000000 in
theorem wid_yes (n : Int) (h0 : 1 ≤ n) (h1 : n ≤ 4) (a : Option Addr) (cap : Nat) (xs : List Nat) (w : World) (hl : xs.length ≤ 1048576) (hr : RdA w a xs) (hx : ∀ y ∈ xs, y < 256) :
    Calls Try.prog 3 #[.int .i64 n, .slice a xs.length cap] w fun e w' => e = .returned (.bool true) ∧ Below w.heap.size w w' := by
  have HB := hide (fun W => beyond_any xs.length (by omega) W)
  simp only [decide_eq_false (by omega : ¬ 1048576 < xs.length)] at HB
  have HS := hide (fun W hW => sum_yes n h0 h1 a cap xs W hx (by omega) hW)
  have HW := hide (width_any n)
  have HN := hide (name_any n)
  have HF := hide (find_any (nameB n))
  rw [findN_of h0 h1] at HF
  have HR := hide hr
  have hsh := wid_shift n h0 h1 xs hx
  have hV : 16 ≤ widW n ∧ widW n ≤ 32 := by
    unfold widW; rw [if_pos ⟨h0, h1⟩]; split <;> omega
  have hS := sumF_u32 n (by omega) xs hx
  clear hr
  generalize nameB n = N at *
  generalize sumF n xs = S at *
  generalize widW n = V at *
  go_enter Try.func3, Try.ntmps3
  go_wp2_with fail
  refine (salive_any _).mono ?_
  rintro e w1 ⟨rfl, hb1⟩
  go_wp2_with fail
  refine (HB.out _).mono ?_
  rintro e w2 ⟨rfl, hw2⟩
  have hb2 : Below w.heap.size w w2 := by rw [hw2]; exact hb1.alloc hb1.size _
  clear hw2 hb1
  go_wp2_with fail
  refine (HS.out _ (HR.out.below hb2)).mono ?_
  rintro e w3 ⟨rfl, hb3⟩
  have B3 := hide ((hb2.trans (hb3.mono hb2.size)).alloc (Nat.le_trans hb2.size hb3.size) (.cells #[.int .i64 V, .int .u64 0, .int .u64 (S : Int)] 27))
  have WS : Hid (WdS w (w3.alloc (.cells #[.int .i64 V, .int .u64 0, .int .u64 (S : Int)] 27)).drew w3.heap.size (.int .i64 V) (.int .u64 0) (.int .u64 (S : Int))) := ⟨B3.out.drew, x3_new w3 _ _ _ _⟩
  clear hb2 hb3
  go_wp2_with fail
  go_region_held3 (fun w' => WdS w w' w3.heap.size (.int .i64 V) (.int .u64 0) (.int .u64 (S : Int)) ∧ w'.cell? ⟨w3.heap.size, 0, none⟩ = some (.int .i64 V) ∧ w'.cell? ⟨w3.heap.size, 1, none⟩ = some (.int .u64 0) ∧ w'.cell? ⟨w3.heap.size, 2, none⟩ = some (.int .u64 (S : Int)))
    (first | exact wdS_next (by assumption) (And.left (by assumption)) | exact wdS_all WS.out)
    (first
      | (go_at_call 7; refine (HW.out _).mono ?_; rintro e wn ⟨rfl, hb⟩)
      | (go_at_call 8; refine (HN.out _).mono ?_; rintro e wn ⟨rfl, hb⟩)
      | (go_at_call 9; refine (HF.out _).mono ?_; rintro e wn ⟨rfl, hb⟩))
  all_goals
    go_wp2
    go_ret
    exact ⟨rfl, (And.left (And.left (by assumption)))⟩
end Go.Proofs.Ytaekdnoondpgnab
