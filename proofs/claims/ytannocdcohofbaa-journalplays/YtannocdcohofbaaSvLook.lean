/- Looking a sum up: Width, Name, Sum. -/
import Derived.Test.YtannocdcohofbaaSvRows
import Derived.Laws.EntriesVeiled
namespace Go.Proofs.Ytannocdcohofbaa
open Go.RowKit Go.MapKept

def zeroRow : Value := .agg #[.string { data := #[] }, .int .i64 0, .nilFunc]
set_option maxRecDepth 100000 in
theorem zeroRow_run (w : World) : (zeroValue 93).run Try.prog w = .ok zeroRow w := by rfl
def rowOf (n : Int) (b1 b2 : Nat) : Value := if n = 1 then rowV1 b1 else if n = 2 then rowV2 b2 else if n = 3 then rowV3 else rowV4
theorem rowsE_mem {b1 b2 : Nat} {e : MapEntry} (h : e ∈ (rowsE b1 b2).toList) : ∃ n : Int, 1 ≤ n ∧ n ≤ 4 ∧ e.key = .int .i64 n ∧ e.val = rowOf n b1 b2 ∧ (e.born : Int) = n - 1 := by
  simp [rowsE] at h
  rcases h with rfl | rfl | rfl | rfl
  · exact ⟨1, by decide, by decide, rfl, rfl, rfl⟩
  · exact ⟨2, by decide, by decide, rfl, rfl, rfl⟩
  · exact ⟨3, by decide, by decide, rfl, rfl, rfl⟩
  · exact ⟨4, by decide, by decide, rfl, rfl, rfl⟩
theorem rowsE_has {b1 b2 : Nat} {n : Int} (h0 : 1 ≤ n) (h1 : n ≤ 4) : ∃ e ∈ (rowsE b1 b2).toList, e.key = .int .i64 n := by
  rcases (by omega : n = 1 ∨ n = 2 ∨ n = 3 ∨ n = 4) with rfl | rfl | rfl | rfl
  · exact ⟨_, List.mem_cons_self .., rfl⟩
  · exact ⟨_, List.mem_cons_of_mem _ (List.mem_cons_self ..), rfl⟩
  · exact ⟨_, List.mem_cons_of_mem _ (List.mem_cons_of_mem _ (List.mem_cons_self ..)), rfl⟩
  · exact ⟨_, List.mem_cons_of_mem _ (List.mem_cons_of_mem _ (List.mem_cons_of_mem _ (List.mem_cons_self ..))), rfl⟩
theorem RowsAt.yes {W : World} {B b1 b2 : Nat} (h : RowsAt W B b1 b2) {n : Int} (h0 : 1 ≤ n) (h1 : n ≤ 4) :
    (Instr.lookup 95 (.map (some B)) (.int .i64 n) true).run Try.prog W = .ok (.tuple #[rowOf n b1 b2, .bool true]) W ∧ (Instr.lookup 95 (.map (some B)) (.int .i64 n) false).run Try.prog W = .ok (rowOf n b1 b2) W := by
  rcases raw_look (P := Try.prog) h.map Try.underlying95 Try.underlying3 (.int .i64 n) rfl (fun x hx => by obtain ⟨m, _, _, e, _⟩ := rowsE_mem hx; rw [e]; rfl) zeroRow (zeroRow_run W) with ⟨e, he, hk, r1, r2⟩ | ⟨hno, _⟩
  · obtain ⟨m, _, _, e1, e2, _⟩ := rowsE_mem he
    rw [hk] at e1
    injection e1 with _ e1
    subst e1
    rw [e2] at r1 r2
    exact ⟨r1, r2⟩
  · obtain ⟨e, he, hk⟩ := rowsE_has (b1 := b1) (b2 := b2) h0 h1
    exact absurd hk (hno e he)
end Go.Proofs.Ytannocdcohofbaa
