/- pointsmanref02: the document's cursor. -/
import Derived.Test.YtlddnpgcoekaaaaGreatDoorFr
import Derived.Test.YtlddnpgcoekaaaaGreatDoorPBit
import Derived.Test.YtlddnpgcoekaaaaGreatDoorMV
import Derived.RegionTactic
namespace Go.Proofs.YtlddnpgcoekaaaaGreatDoor
open Go.RowKit

structure RC (W : World) (B g : Nat) (v : Value) (xs : List Nat) (t : Nat) : Prop where
  gB : B ≤ g
  bk : W.heap[g]? = some (.cells #[v, .int .i64 t] 80 (0, 0))
  own : Own8 W B v xs
  ne : v.ownBlock ≠ some g
  le : t ≤ 8 * xs.length
  l1 : xs.length ≤ 65536
theorem RC.lt {W : World} {B g : Nat} {v : Value} {xs : List Nat} {t : Nat} (h : RC W B g v xs t) : g < W.heap.size := (Array.getElem?_eq_some_iff.1 h.bk).1
theorem RC.cells {W : World} {B g : Nat} {v : Value} {xs : List Nat} {t : Nat} (h : RC W B g v xs t) : W.cell? ⟨g, 0, none⟩ = some v ∧ W.cell? ⟨g, 1, none⟩ = some (.int .i64 t) ∧ ∀ o, W.frozen? ⟨g, o, none⟩ = false := by
  refine ⟨?_, ?_, fun o => ?_⟩
  · unfold World.cell?; simp only [h.bk]; rfl
  · unfold World.cell?; simp only [h.bk]; rfl
  · unfold World.frozen?; simp only [h.bk]; simp
theorem RC.fr {E : Nat → Prop} {W W' : World} {B g : Nat} {v : Value} {xs : List Nat} {t : Nat} (h : RC W B g v xs t) (hf : Fr E W W') (h1 : ¬ E g) (h2 : ∀ b, v.ownBlock = some b → ¬ E b) : RC W' B g v xs t := by
  refine ⟨h.gB, (hf.block g h.lt h1).trans h.bk, ?_, h.ne, h.le, h.l1⟩
  refine ⟨h.own.1, ?_⟩
  rcases h.own.2 with h0 | ⟨gr, cap, cur, rfl, hg, hcur, rest⟩
  · exact .inl h0
  · exact .inr ⟨gr, cap, cur, rfl, hg, (hf.block _ (Array.getElem?_eq_some_iff.1 hcur).1 (h2 gr rfl)).trans hcur, rest⟩
theorem RC.next {W W' : World} {B g : Nat} {v : Value} {xs : List Nat} {t : Nat} (h : RC W B g v xs t) (hb : Below W.heap.size W W') : RC W' B g v xs t := h.fr (E := fun _ => False) (Fr.ofBelow hb) (fun e => e) (fun _ _ e => e)
theorem rleft_nil (w : World) : Calls Tryz.prog 11 #[.pointer none] w fun e w' => e = .returned (.int .i64 0) ∧ w' = w := by
  go_enter Tryz.func11, Tryz.ntmps11
  go_wp2
  go_ret
  exact ⟨rfl, rfl⟩
theorem rplace_nil (w : World) : Calls Tryz.prog 13 #[.pointer none] w fun e w' => e = .returned (.int .i64 0) ∧ w' = w := by
  go_enter Tryz.func13, Tryz.ntmps13
  go_wp2
  go_ret
  exact ⟨rfl, rfl⟩
theorem rtake_nil (n : Int) (w : World) : Calls Tryz.prog 9 #[.pointer none, .int .i64 n] w fun e w' => e = .returned (.tuple #[.agg #[.int .i64 0, .int .u64 0, .int .u64 0], .int .i64 2]) ∧ Below w.heap.size w w' := by
  go_enter Tryz.func9, Tryz.ntmps9
  go_wp2
  refine bodyPost_ret (v := .tuple #[.agg #[.int .i64 0, .int .u64 0, .int .u64 0], .int .i64 2]) (by simp [results, Tryz.results9, go_sem]) rfl ⟨rfl, ?_⟩
  exact (Below.refl _ _).alloc (Nat.le_refl _) _
theorem rrest_nil (w : World) : Calls Tryz.prog 16 #[.pointer none] w fun e w' => e = .returned (.slice none 0 0) ∧ w' = w := by
  go_enter Tryz.func16, Tryz.ntmps16
  go_wp2
  go_ret
  exact ⟨rfl, rfl⟩
theorem rnew_limit (a : Option Addr) (n cap : Nat) (w : World) (h : 65536 < n) : Calls Tryz.prog 6 #[.slice a n cap] w fun e w' => e = .returned (.tuple #[.pointer none, .int .i64 3]) ∧ w' = w := by
  have h1 : (65536 : Int) < (n : Int) := by omega
  clear h
  go_enter Tryz.func6, Tryz.ntmps6
  go_wp2
  go_ret2
  exact ⟨rfl, rfl⟩
theorem rleft_any {W : World} {B g : Nat} {v : Value} {xs : List Nat} {t : Nat} (h : RC W B g v xs t) : Calls Tryz.prog 11 #[.pointer (some ⟨g, 0, none⟩)] W fun e w' => e = .returned (.int .i64 ((8 * xs.length - t : Nat) : Int)) ∧ Below W.heap.size W w' := by
  obtain ⟨a, cap, rfl, _⟩ := h.own.shape
  obtain ⟨c0, c1, _⟩ := h.cells
  have h1 := h.le; have h2 := h.l1
  have e1 : (8 : Int) * (xs.length : Int) - (t : Int) = ((8 * xs.length - t : Nat) : Int) := by omega
  go_enter Tryz.func11, Tryz.ntmps11
  go_wp2
  go_region
  all_goals
    go_wp2
    go_ret
    exact ⟨by first | rfl | exact ret_int (by omega), (Below.refl _ _).drew⟩
theorem rplace_any {W : World} {B g : Nat} {v : Value} {xs : List Nat} {t : Nat} (h : RC W B g v xs t) : Calls Tryz.prog 13 #[.pointer (some ⟨g, 0, none⟩)] W fun e w' => e = .returned (.int .i64 t) ∧ w' = W := by
  obtain ⟨c0, c1, _⟩ := h.cells
  clear h
  go_enter Tryz.func13, Tryz.ntmps13
  go_wp2
  go_ret
  exact ⟨rfl, rfl⟩
theorem rbit_any (p off cap : Nat) (xs : List Nat) (i : Nat) (w : World) (hx : ∀ y ∈ xs, y < 256) (hl : xs.length ≤ 65536) (hi : i < 8 * xs.length) (hc : ∀ j (h : j < xs.length), w.cell? ⟨p, off + j, none⟩ = some (.int .u8 (xs[j] : Nat))) :
    Calls Tryz.prog 23 #[.slice (some ⟨p, off, none⟩) xs.length cap, .int .i64 i] w fun e w' => e = .returned (.bool (bitOf xs i == 1)) ∧ w' = w := by
  obtain ⟨Q, hQ⟩ : ∃ Q, i / 8 = Q := ⟨_, rfl⟩
  have hQl : Q < xs.length := by omega
  have c := hc Q hQl
  have hy := hx xs[Q] (List.getElem_mem hQl)
  have hb : bitOf xs i = xs[Q] / 2 ^ (7 - i % 8) % 2 := by rw [bitOf, hQ, List.getD_eq_getElem?_getD, List.getElem?_eq_getElem hQl]; rfl
  have hq : (i : Int) / 8 = (Q : Int) := by omega
  obtain ⟨s, hs⟩ : ∃ s, 7 - i % 8 = s := ⟨_, rfl⟩
  have hm : (7 : Int) - (i : Int) % 8 = (s : Int) := by omega
  rw [hs] at hb
  have hs8 : s < 8 := by omega
  have hQI : (Q : Int) < (xs.length : Int) := by omega
  have hi9 : i < 1000000 := by omega
  have HBB := hide (u8_bit xs[Q] s hy)
  have HB := hide hb
  clear hc hx hs hQ hb
  generalize xs[Q] = y at *
  go_enter Tryz.func23, Tryz.ntmps23
  go_wp2
  go_ret
  refine ⟨?_, rfl⟩
  have e : (((y / 2 ^ s % 2 : Nat) : Int) == 1) = (y / 2 ^ s % 2 == 1) := by rcases Nat.mod_two_eq_zero_or_one (y / 2 ^ s) with h | h <;> rw [h] <;> rfl
  rw [HB.out, HBB.out]
  show Ending.returned (Value.bool (((y / 2 ^ s % 2 : Nat) : Int) == 1)) = _
  rw [e]
theorem rnew_yes (a : Option Addr) (cap : Nat) (xs : List Nat) (w : World) (hl : xs.length ≤ 65536) (hr : RdA w a xs) (hn : a = none → cap = 0) :
    Calls Tryz.prog 6 #[.slice a xs.length cap] w fun e w' => ∃ g v, e = .returned (.tuple #[.pointer (some ⟨g, 0, none⟩), .int .i64 0]) ∧ RC w' w.heap.size g v xs 0 ∧ Below w.heap.size w w' := by
  have h1 : ¬ (65536 : Int) < (xs.length : Int) := by omega
  have HR := hide (hr.below ((Below.refl _ w).alloc (Nat.le_refl _) (.cells #[.slice none 0 0, .int .i64 0] 80)))
  have HZ := hide (heap_alloc_new w (.cells #[.slice none 0 0, .int .i64 0] 80))
  have HNN := hide hn
  clear hr hn
  go_enter Tryz.func6, Tryz.ntmps6
  go_wp2_with (at_builtin; refine wpList_app8 rfl _ _ rfl w.heap.size (.slice none 0 0) [] rfl (Own8.nil _ _) a xs.length cap xs rfl rfl HR.out HNN.out (by simp; omega) (by simp) ?_; intro v7 w7 O7 G7 K7; have hz7 := (G7.block w.heap.size (by simp) (fun e => by cases e)).trans HZ.out; have B7 := hide (((Below.refl _ w).alloc (Nat.le_refl _) _).grown G7 (by simp) (fun k e => by cases e)); have K8 : Hid (v7.ownBlock ≠ some w.heap.size) := hide (fun e => by (rcases K7 with k | k; (rw [k] at e; cases e); (rw [k, World.size_alloc] at e; injection e with e; omega))); obtain ⟨av, cv, rfl, _, _, _⟩ := O7.shape; have OO7 := hide O7; have HZ7 := hide hz7; have cz : w7.cell? ⟨w.heap.size, 0, none⟩ = some (.slice none 0 0) := (by unfold World.cell?; simp only [hz7]; rfl); have fz : w7.frozen? ⟨w.heap.size, 0, none⟩ = false := (by unfold World.frozen?; simp only [hz7]; simp); clear O7 G7 K7 hz7)
  go_ret2
  refine ⟨w.heap.size, rfl, ⟨_, ⟨Nat.le_refl _, heap_setCell_same HZ7.out _, ?_, K8.out, Nat.zero_le _, hl⟩⟩, B7.out.setCell (by first | exact Nat.le_refl _ | simp) _⟩
  refine ⟨OO7.out.1, ?_⟩
  rcases OO7.out.2 with h0 | ⟨gr, gc, cur, e, hg, hcur, rest⟩
  · exact .inl h0
  · refine .inr ⟨gr, gc, cur, e, hg, (Below.heap_setCell _ _ _ _ (fun e2 => ?_)).trans hcur, rest⟩
    refine K8.out ?_
    rw [e]
    show some gr = _
    exact congrArg some (by first | exact e2 | exact e2.symm)
end Go.Proofs.YtlddnpgcoekaaaaGreatDoor
