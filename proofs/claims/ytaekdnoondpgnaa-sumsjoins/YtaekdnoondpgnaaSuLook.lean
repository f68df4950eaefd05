/- Looking a sum up: Width, Name, Sum. -/
import Derived.Test.YtaekdnoondpgnaaSuRows
import Derived.Laws.EntriesVeiled
namespace Go.Proofs.Ytaekdnoondpgnaa
open Go.RowKit Go.MapKept

def zeroRow : Value := .agg #[.string { data := #[] }, .int .i64 0, .nilFunc]
theorem zeroRow_run (w : World) : (zeroValue 51).run Try.prog w = .ok zeroRow w := by rfl
def rowOf (n : Int) (b1 b2 : Nat) : Value := if n = 1 then rowV1 b1 else if n = 2 then rowV2 b2 else if n = 3 then rowV3 else rowV4
theorem rowsE_mem {b1 b2 : Nat} {e : MapEntry} (h : e ∈ (rowsE b1 b2).toList) : ∃ n : Int, 1 ≤ n ∧ n ≤ 4 ∧ e.key = .int .i64 n ∧ e.val = rowOf n b1 b2 ∧ (e.born : Int) = n - 1 := by
  simp [rowsE] at h
  rcases h with rfl | rfl | rfl | rfl
  · exact ⟨1, by decide, by decide, rfl, rfl, rfl⟩
  · exact ⟨2, by decide, by decide, rfl, rfl, rfl⟩
  · exact ⟨3, by decide, by decide, rfl, rfl, rfl⟩
  · exact ⟨4, by decide, by decide, rfl, rfl, rfl⟩
theorem rowsE_has {b1 b2 : Nat} {n : Int} (h0 : 1 ≤ n) (h1 : n ≤ 4) : ∃ e ∈ (rowsE b1 b2).toList, e.key = .int .i64 n := by
  rcases (by omega : n = 1 ∨ n = 2 ∨ n = 3 ∨ n = 4) with rfl | rfl | rfl | rfl
  · exact ⟨_, List.mem_cons_self .., rfl⟩
  · exact ⟨_, List.mem_cons_of_mem _ (List.mem_cons_self ..), rfl⟩
  · exact ⟨_, List.mem_cons_of_mem _ (List.mem_cons_of_mem _ (List.mem_cons_self ..)), rfl⟩
  · exact ⟨_, List.mem_cons_of_mem _ (List.mem_cons_of_mem _ (List.mem_cons_of_mem _ (List.mem_cons_self ..))), rfl⟩
theorem RowsAt.yes {W : World} {B b1 b2 : Nat} (h : RowsAt W B b1 b2) {n : Int} (h0 : 1 ≤ n) (h1 : n ≤ 4) :
    (Instr.lookup 53 (.map (some B)) (.int .i64 n) true).run Try.prog W = .ok (.tuple #[rowOf n b1 b2, .bool true]) W ∧ (Instr.lookup 53 (.map (some B)) (.int .i64 n) false).run Try.prog W = .ok (rowOf n b1 b2) W := by
  rcases raw_look (P := Try.prog) h.map Try.underlying53 Try.underlying3 (.int .i64 n) rfl (fun x hx => by obtain ⟨m, _, _, e, _⟩ := rowsE_mem hx; rw [e]; rfl) zeroRow (zeroRow_run W) with ⟨e, he, hk, r1, r2⟩ | ⟨hno, _⟩
  · obtain ⟨m, _, _, e1, e2, _⟩ := rowsE_mem he
    rw [hk] at e1
    injection e1 with _ e1
    subst e1
    rw [e2] at r1 r2
    exact ⟨r1, r2⟩
  · obtain ⟨e, he, hk⟩ := rowsE_has (b1 := b1) (b2 := b2) h0 h1
    exact absurd hk (hno e he)
theorem RowsAt.no {W : World} {B b1 b2 : Nat} (h : RowsAt W B b1 b2) {n : Int} (h0 : ¬ (1 ≤ n ∧ n ≤ 4)) :
    (Instr.lookup 53 (.map (some B)) (.int .i64 n) true).run Try.prog W = .ok (.tuple #[zeroRow, .bool false]) W ∧ (Instr.lookup 53 (.map (some B)) (.int .i64 n) false).run Try.prog W = .ok zeroRow W := by
  rcases raw_look (P := Try.prog) h.map Try.underlying53 Try.underlying3 (.int .i64 n) rfl (fun x hx => by obtain ⟨m, _, _, e, _⟩ := rowsE_mem hx; rw [e]; rfl) zeroRow (zeroRow_run W) with ⟨e, he, hk, r1, r2⟩ | ⟨_, r1, r2⟩
  · obtain ⟨m, m0, m1, e1, _⟩ := rowsE_mem he
    rw [hk] at e1
    injection e1 with _ e1
    exact absurd ⟨by omega, by omega⟩ h0
  · exact ⟨r1, r2⟩
def widW (n : Int) : Int := if 1 ≤ n ∧ n ≤ 4 then (if n = 2 then 32 else 16) else 0
def nameB (n : Int) : ByteArray := if n = 1 then S1 else if n = 2 then S2 else if n = 3 then S3 else if n = 4 then S4 else { data := #[] }
theorem run_field0 (s : ByteArray) (n : Int) (v : Value) (w : World) : (Instr.field 51 (.agg #[.string s, .int .i64 n, v]) 0).run Try.prog w = .ok (.string s) w := by rfl
theorem run_field1 (s : ByteArray) (n : Int) (v : Value) (w : World) : (Instr.field 51 (.agg #[.string s, .int .i64 n, v]) 1).run Try.prog w = .ok (.int .i64 n) w := by rfl
theorem width_any (n : Int) (w : World) : Calls Try.prog 14 #[.int .i64 n] w fun e w' => e = .returned (.int .i64 (widW n)) ∧ Below w.heap.size w w' := by
  by_cases h : 1 ≤ n ∧ n ≤ 4
  · rcases (by omega : n = 1 ∨ n = 2 ∨ n = 3 ∨ n = 4) with rfl | rfl | rfl | rfl
    all_goals
      go_enter Try.func14, Try.ntmps14
      go_wp2_with fail
      refine (rows_any _).mono ?_
      rintro e w1 ⟨rfl, b1, b2, hT, hb⟩
      have hrun := (hT.yes h.1 h.2).2
      simp only [rowOf, rowV1, rowV2, rowV3, rowV4, crcV, if_true, reduceIte, Int.reduceEq] at hrun
      clear hT
      have hf0 := run_field0
      have hf1 := run_field1
      go_wp2
      go_ret
      exact ⟨rfl, hb⟩
  · have e0 : widW n = 0 := if_neg h
    go_enter Try.func14, Try.ntmps14
    go_wp2_with fail
    refine (rows_any _).mono ?_
    rintro e w1 ⟨rfl, b1, b2, hT, hb⟩
    have hrun := (hT.no h).2
    unfold zeroRow at hrun
    have HE := hide e0
    clear hT h e0
    have hf0 := run_field0
    have hf1 := run_field1
    go_wp2
    go_ret
    exact ⟨by rw [HE.out]; rfl, hb⟩
theorem name_any (n : Int) (w : World) : Calls Try.prog 16 #[.int .i64 n] w fun e w' => e = .returned (.string (nameB n)) ∧ Below w.heap.size w w' := by
  by_cases h : 1 ≤ n ∧ n ≤ 4
  · rcases (by omega : n = 1 ∨ n = 2 ∨ n = 3 ∨ n = 4) with rfl | rfl | rfl | rfl
    all_goals
      go_enter Try.func16, Try.ntmps16
      go_wp2_with fail
      refine (rows_any _).mono ?_
      rintro e w1 ⟨rfl, b1, b2, hT, hb⟩
      have hrun := (hT.yes h.1 h.2).2
      simp only [rowOf, rowV1, rowV2, rowV3, rowV4, crcV, if_true, reduceIte, Int.reduceEq] at hrun
      clear hT
      have hf0 := run_field0
      have hf1 := run_field1
      go_wp2
      go_ret
      exact ⟨rfl, hb⟩
  · have e0 : nameB n = { data := #[] } := by unfold nameB; rw [if_neg (by omega), if_neg (by omega), if_neg (by omega), if_neg (by omega)]
    go_enter Try.func16, Try.ntmps16
    go_wp2_with fail
    refine (rows_any _).mono ?_
    rintro e w1 ⟨rfl, b1, b2, hT, hb⟩
    have hrun := (hT.no h).2
    unfold zeroRow at hrun
    have HE := hide e0
    clear hT h e0
    have hf0 := run_field0
    have hf1 := run_field1
    go_wp2
    go_ret
    exact ⟨by rw [HE.out]; rfl, hb⟩
theorem sum_no (n : Int) (v : Value) (w : World) (h : ¬ (1 ≤ n ∧ n ≤ 4)) : Calls Try.prog 11 #[.int .i64 n, v] w fun e w' => e = .returned (.tuple #[.agg #[.int .i64 0, .int .u64 0, .int .u64 0], .int .i64 1]) ∧ Below w.heap.size w w' := by
  go_enter Try.func11, Try.ntmps11
  go_wp2_with fail
  refine (rows_any _).mono ?_
  rintro e w1 ⟨rfl, b1, b2, hT, hb⟩
  have hrun := (hT.no h).1
  unfold zeroRow at hrun
  obtain ⟨hc, hf⟩ := bcell hb
  have hz : w.heap.size < w1.heap.size := by have := hb.size; simp at this; omega
  have HB := hide hb
  simp only [World.size_alloc] at hrun
  clear hT h hb
  go_wp2
  refine bodyPost_ret (v := .tuple #[.agg #[.int .i64 0, .int .u64 0, .int .u64 0], .int .i64 1]) (by simp [results, Try.results11, go_sem, hc, hz]) rfl ⟨rfl, ?_⟩
  have h1 := HB.out.size
  simp at h1
  exact (((((((Below.refl _ _).alloc (Nat.le_refl _) _).trans (HB.out.mono (by simp))).setCell (Nat.le_refl _) _).setCell (Nat.le_refl _) _).setCell (Nat.le_refl _) _)).alloc (by simp; omega) _
end Go.Proofs.Ytaekdnoondpgnaa
