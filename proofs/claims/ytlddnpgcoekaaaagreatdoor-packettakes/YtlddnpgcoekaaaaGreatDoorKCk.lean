/- The packet's cursor, with bytes of its own; what is not there. -/
import Derived.Test.YtlddnpgcoekaaaaGreatDoorKRs
import Derived.Test.YtlddnpgcoekaaaaGreatDoorKTk
import Derived.Test.YtlddnpgcoekaaaaGreatDoorFr
import Derived.Test.YtlddnpgcoekaaaaGreatDoorOwnB
import Derived.RegionTactic
import Derived.Deep.RegionHeld3
namespace Go.Proofs.YtlddnpgcoekaaaaGreatDoor
open Go.RowKit

theorem clone_any (a : Option Addr) (cap : Nat) (xs : List Nat) (w : World) (hl : xs.length ≤ 100000000) (hr : RdA w a xs) (hn : a = none → cap = 0) :
    Calls Tryz.prog 19 #[.slice a xs.length cap] w fun e w' => ∃ u, e = .returned u ∧ Own8 w' w.heap.size u xs ∧ Below w.heap.size w w' := by
  cases a with
  | none =>
    obtain rfl : xs = [] := by
      rcases hr with h | ⟨p, off, e, _⟩
      · exact h
      · cases e
    obtain rfl := hn rfl
    have hnil : ∀ W, (binOp .eql 22 (.slice none 0 0) (.slice none 0 0)).run Tryz.prog W = .ok (.bool true) W := fun W => Lib.run_eql_slice_nil W 22 5 _ _ _ _ _ Tryz.underlying22
    rw [List.length_nil]
    go_enter Tryz.func19, Tryz.ntmps19
    go_wp2
    go_ret
    exact ⟨_, rfl, Own8.nil _ _, Below.refl _ _⟩
  | some q =>
    have HR := hide (RdA.below hr ((Below.refl _ w).alloc (Nat.le_refl _) (.cells #[] 5)))
    have hnil : ∀ W, (binOp .eql 22 (.slice (some q) xs.length cap) (.slice none 0 0)).run Tryz.prog W = .ok (.bool false) W := fun W => Lib.run_eql_slice_nil W 22 5 _ _ _ _ _ Tryz.underlying22
    have HO : Hid (Own8 (w.alloc (.cells #[] 5)) w.heap.size (.slice (some ⟨w.heap.size, 0, none⟩) 0 0) []) := World.ownsRow_made w #[] 0 (Nat.le_refl _) (by decide) rfl
    clear hr hn
    go_enter Tryz.func19, Tryz.ntmps19
    go_wp2_with (first
      | (at_builtin; refine wpList_app8 rfl _ _ rfl w.heap.size _ [] rfl HO.out (some q) xs.length cap xs rfl rfl HR.out (by simp) (by simp; omega) (by simp) ?_; intro v7 w7 O7 G7 K7; have OO7 := hide O7; have B7 := hide (below_own ((Below.refl _ w).alloc (Nat.le_refl _) _) HO.out G7 (by simp)); clear O7 G7 K7))
    go_ret
    exact ⟨v7, rfl, OO7.out, B7.out⟩
/- A cursor that is not there: none, or one that New did not make. -/
def Nope (W : World) (pv : Value) : Prop := pv = .pointer none ∨ ∃ g, pv = .pointer (some ⟨g, 0, none⟩) ∧ W.cell? ⟨g, 2, none⟩ = some (.bool false)
theorem Nope.fr {E : Nat → Prop} {W W' : World} {pv : Value} (h : Nope W pv) (hf : Fr E W W') (hn : ∀ g, pv = .pointer (some ⟨g, 0, none⟩) → ¬ E g) : Nope W' pv := by
  rcases h with h | ⟨g, e, hc⟩
  · exact .inl h
  · exact .inr ⟨g, e, hf.cell hc (hn g e)⟩
theorem isThere_no {W : World} {pv : Value} (h : Nope W pv) : Calls Tryz.prog 20 #[pv] W fun e w' => e = .returned (.bool false) ∧ w' = W := by
  rcases h with rfl | ⟨g, rfl, hc⟩
  · go_enter Tryz.func20, Tryz.ntmps20
    go_wp2
    go_ret
    exact ⟨rfl, rfl⟩
  · go_enter Tryz.func20, Tryz.ntmps20
    go_wp2
    go_ret
    exact ⟨rfl, rfl⟩
theorem left_no {W : World} {pv : Value} (h : Nope W pv) : Calls Tryz.prog 10 #[pv] W fun e w' => e = .returned (.int .i64 0) ∧ w' = W := by
  have HI := hide (isThere_no h)
  clear h
  go_enter Tryz.func10, Tryz.ntmps10
  go_wp2_with fail
  refine HI.out.mono ?_
  rintro e w1 ⟨rfl, rfl⟩
  go_wp2
  go_ret
  exact ⟨rfl, rfl⟩
theorem at_no {W : World} {pv : Value} (h : Nope W pv) : Calls Tryz.prog 12 #[pv] W fun e w' => e = .returned (.int .i64 0) ∧ w' = W := by
  have HI := hide (isThere_no h)
  clear h
  go_enter Tryz.func12, Tryz.ntmps12
  go_wp2_with fail
  refine HI.out.mono ?_
  rintro e w1 ⟨rfl, rfl⟩
  go_wp2
  go_ret
  exact ⟨rfl, rfl⟩
theorem rest_no {W : World} {pv : Value} (h : Nope W pv) : Calls Tryz.prog 15 #[pv] W fun e w' => e = .returned (.slice none 0 0) ∧ w' = W := by
  have HI := hide (isThere_no h)
  clear h
  go_enter Tryz.func15, Tryz.ntmps15
  go_wp2_with fail
  refine HI.out.mono ?_
  rintro e w1 ⟨rfl, rfl⟩
  go_wp2
  go_ret
  exact ⟨rfl, rfl⟩
theorem Nope.al {W : World} {pv : Value} (h : Nope W pv) (o : Obj) : Nope (W.alloc o) pv := h.fr (E := fun _ => False) (Fr.ofBelow ((Below.refl _ W).alloc (Nat.le_refl _) o)) (fun _ _ e => e)
theorem below_set3 {B g : Nat} {W0 W : World} (h : Below B W0 W) (hg : B ≤ g) (a b c : Value) : Below B W0 (((W.setCell ⟨g, 0, none⟩ a).setCell ⟨g, 1, none⟩ b).setCell ⟨g, 2, none⟩ c) :=
  ((h.setCell (p := ⟨g, 0, none⟩) hg a).setCell (p := ⟨g, 1, none⟩) hg b).setCell (p := ⟨g, 2, none⟩) hg c
theorem take_no {W : World} {pv : Value} (h : Nope W pv) (n : Int) : Calls Tryz.prog 8 #[pv, .int .i64 n] W fun e w' => e = .returned (.tuple #[.agg #[.int .i64 0, .int .u64 0, .int .u64 0], .int .i64 2]) ∧ Below W.heap.size W w' := by
  have HI := hide (isThere_no (h.al (.cells #[.int .i64 0, .int .u64 0, .int .u64 0] 71)))
  have hz := heap_alloc_new W (.cells #[.int .i64 0, .int .u64 0, .int .u64 0] 71)
  have hB := (Below.refl W.heap.size W).alloc (Nat.le_refl _) (.cells #[.int .i64 0, .int .u64 0, .int .u64 0] 71)
  have HB := hide hB
  have c0 : (W.alloc (.cells #[.int .i64 0, .int .u64 0, .int .u64 0] 71)).cell? ⟨W.heap.size, 0, none⟩ = some (.int .i64 0) := by unfold World.cell?; simp only [hz]; rfl
  have c1 : (W.alloc (.cells #[.int .i64 0, .int .u64 0, .int .u64 0] 71)).cell? ⟨W.heap.size, 1, none⟩ = some (.int .u64 0) := by unfold World.cell?; simp only [hz]; rfl
  have c2 : (W.alloc (.cells #[.int .i64 0, .int .u64 0, .int .u64 0] 71)).cell? ⟨W.heap.size, 2, none⟩ = some (.int .u64 0) := by unfold World.cell?; simp only [hz]; rfl
  have f0 : ∀ o, (W.alloc (.cells #[.int .i64 0, .int .u64 0, .int .u64 0] 71)).frozen? ⟨W.heap.size, o, none⟩ = false := fun o => by unfold World.frozen?; simp only [hz]; simp
  clear h hz hB
  go_enter Tryz.func8, Tryz.ntmps8
  go_wp2_with fail
  refine HI.out.mono ?_
  rintro e w1 ⟨rfl, rfl⟩
  go_wp2
  refine bodyPost_ret (v := .tuple #[.agg #[.int .i64 0, .int .u64 0, .int .u64 0], .int .i64 2]) (by simp [results, Tryz.results8, go_sem, c0, c1, c2]) rfl ⟨rfl, ?_⟩
  first | exact HB.out | exact below_set3 HB.out (Nat.le_refl _) _ _ _
theorem take_wide {w : World} {g : Nat} {a : Option Addr} {cap : Nat} {xs : List Nat} {t : Nat} (h : Cur w g a cap xs t) (n : Int) (hn : ¬ (1 ≤ n ∧ n ≤ 128)) :
    Calls Tryz.prog 8 #[.pointer (some ⟨g, 0, none⟩), .int .i64 n] w fun e w' =>
      e = .returned (.tuple #[.agg #[.int .i64 0, .int .u64 0, .int .u64 0], .int .i64 1]) ∧ Below w.heap.size w w' := by
  have K0 := hide (h.keep (((Below.refl _ w).alloc (Nat.le_refl _) (.cells #[.int .i64 0, .int .u64 0, .int .u64 0] 71))))
  clear h
  have hn' : n < 1 ∨ 128 < n := by omega
  clear hn
  go_enter Tryz.func8, Tryz.ntmps8
  go_wp2_with fail
  refine (isThere_any K0.out).mono ?_
  rintro e w1 ⟨rfl, hb⟩
  obtain ⟨hc, hf⟩ := bcell hb
  have hz : w.heap.size < w1.heap.size := by have h1 := hb.size; simp at h1; omega
  rcases hn' with hn' | hn'
  · go_wp2
    refine bodyPost_ret (v := .tuple #[.agg #[.int .i64 0, .int .u64 0, .int .u64 0], .int .i64 1]) (by simp [results, Tryz.results8, go_sem, hc]) rfl ⟨rfl, ?_⟩
    exact ((((((Below.refl _ _).alloc (Nat.le_refl _) _).trans (hb.mono (by simp))).setCell (Nat.le_refl _) _).setCell (Nat.le_refl _) _).setCell (Nat.le_refl _) _)
  · have hn1 : ¬ n < 1 := by omega
    go_wp2
    refine bodyPost_ret (v := .tuple #[.agg #[.int .i64 0, .int .u64 0, .int .u64 0], .int .i64 1]) (by simp [results, Tryz.results8, go_sem, hc]) rfl ⟨rfl, ?_⟩
    exact ((((((Below.refl _ _).alloc (Nat.le_refl _) _).trans (hb.mono (by simp))).setCell (Nat.le_refl _) _).setCell (Nat.le_refl _) _).setCell (Nat.le_refl _) _)
/- A cursor with bytes of its own. -/
structure CK (W : World) (B g : Nat) (a : Option Addr) (cap : Nat) (xs : List Nat) (t : Nat) : Prop where
  gB : B ≤ g
  cur : Cur W g a cap xs t
  own : Own8 W B (.slice a xs.length cap) xs
  le : t ≤ 8 * xs.length
  l1 : xs.length ≤ 65536
theorem CK.ne {W : World} {B g : Nat} {a : Option Addr} {cap : Nat} {xs : List Nat} {t : Nat} (h : CK W B g a cap xs t) : (Value.slice a xs.length cap).ownBlock ≠ some g := by
  intro e
  rcases h.own.2 with ⟨h0, _⟩ | ⟨gr, cp, cur, hv, _⟩
  · rw [h0] at e; cases e
  · rw [hv] at e
    injection hv with ha _ _
    have := h.cur.ne ⟨gr, 0, none⟩ ha
    exact this (by injection e)
theorem CK.fr {E : Nat → Prop} {W W' : World} {B g : Nat} {a : Option Addr} {cap : Nat} {xs : List Nat} {t : Nat} (h : CK W B g a cap xs t) (hf : Fr E W W') (h1 : ¬ E g) (h2 : ∀ b, (Value.slice a xs.length cap).ownBlock = some b → ¬ E b) : CK W' B g a cap xs t := by
  have hq : ∀ q, a = some q → ¬ E q.block := fun q e => by
    rcases h.own.2 with ⟨h0, _⟩ | ⟨gr, cp, cur, hv, _⟩
    · injection h0 with ha _ _; rw [ha] at e; cases e
    · injection hv with ha _ _
      have h3 := h2 gr (by rw [ha]; rfl)
      rw [ha] at e; injection e with e; rw [← e]; exact h3
  have hb := h.cur
  refine ⟨h.gB, ⟨Nat.lt_of_lt_of_le hb.lt hf.size, hf.cell hb.c0 h1, ?_, hf.cell hb.c1 h1, hf.cell hb.c2 h1, hb.rd.keep hf.size (fun q e => hf.block _ (hb.rd.lt q e) (hq q e)), hb.ne⟩, ?_, h.le, h.l1⟩
  · exact (World.frozen?_of_block (w := W) (hf.block g hb.lt h1)).trans hb.f0
  · refine ⟨h.own.1, ?_⟩
    rcases h.own.2 with h0 | ⟨gr, gc, cur, e, hg, hcur, rest⟩
    · exact .inl h0
    · exact .inr ⟨gr, gc, cur, e, hg, (hf.block _ (Array.getElem?_eq_some_iff.1 hcur).1 (h2 gr (by rw [e]; rfl))).trans hcur, rest⟩
theorem CK.next {W W' : World} {B g : Nat} {a : Option Addr} {cap : Nat} {xs : List Nat} {t : Nat} (h : CK W B g a cap xs t) (hb : Below W.heap.size W W') : CK W' B g a cap xs t := h.fr (E := fun _ => False) (Fr.ofBelow hb) (fun e => e) (fun _ _ e => e)
theorem Moved.toFr {g : Nat} {W W' : World} (h : Moved g W W') : Fr (fun x => x = g) W W' := ⟨h.os, h.tape, h.output, h.size, fun _ hb hn => h.block hb hn⟩
theorem CK.took {W W' : World} {B g : Nat} {a : Option Addr} {cap : Nat} {xs : List Nat} {t s : Nat} (h : CK W B g a cap xs t) (hm : Moved g W W') (hc : Cur W' g a cap xs s) (hs : s ≤ 8 * xs.length) : CK W' B g a cap xs s := by
  refine ⟨h.gB, hc, ?_, hs, h.l1⟩
  refine ⟨h.own.1, ?_⟩
  rcases h.own.2 with h0 | ⟨gr, gc, cur, e, hg, hcur, rest⟩
  · exact .inl h0
  · refine .inr ⟨gr, gc, cur, e, hg, (hm.block (Array.getElem?_eq_some_iff.1 hcur).1 (fun e2 => h.ne ?_)).trans hcur, rest⟩
    rw [e]; exact congrArg some e2
theorem ck_new (a : Option Addr) (cap : Nat) (xs : List Nat) (w : World) (hl : xs.length ≤ 65536) (hr : RdA w a xs) (hn : a = none → cap = 0) :
    Calls Tryz.prog 5 #[.slice a xs.length cap] w fun e w' => ∃ g a' c', e = .returned (.tuple #[.pointer (some ⟨g, 0, none⟩), .int .i64 0]) ∧ CK w' w.heap.size g a' c' xs 0 ∧ Below w.heap.size w w' := by
  have HC := hide (clone_any a cap xs w (by omega) hr hn)
  have hI : decide ((xs.length : Int) > 65536) = false := by simp; omega
  have hI2 : ¬ (xs.length : Int) > 65536 := by omega
  clear hr hn
  go_enter Tryz.func5, Tryz.ntmps5
  go_wp2_with fail
  refine HC.out.mono ?_
  rintro e w1 ⟨u, rfl, ho, hb⟩
  obtain ⟨a', c', rfl, _, hnc, _⟩ := ho.shape
  have OO := hide ho; have HB := hide hb
  have hnc' := hide hnc
  clear ho hb hnc
  go_wp2
  go_ret2
  have hb1 := (Below.refl w1.heap.size w1).alloc (Nat.le_refl _) (.cells #[.int .i64 0, .slice a' xs.length c', .bool true] 36)
  have hrd : RdC w1 a' xs := by
    rcases OO.out.2 with ⟨h0, hx0⟩ | ⟨gr, gc, cur, e, hg, hcur, _⟩
    · injection h0 with ha _ _
      exact .inl ⟨ha, List.length_eq_zero_iff.1 (by simpa using hx0)⟩
    · injection e with ha _ _
      have hlt := (Array.getElem?_eq_some_iff.1 hcur).1
      subst ha
      refine .inr ⟨gr, 0, rfl, hlt, fun i hi => ?_⟩
      have := World.ownsRow.cellAt OO.out i (by omega)
      rw [Nat.zero_add, this]
      simp [u8s, hi]
  exact ⟨w1.heap.size, a', c', rfl, ⟨HB.out.size, cur_new w1 a' c' xs hrd, OO.out.below hb1, Nat.zero_le _, hl⟩, HB.out.alloc HB.out.size _⟩
end Go.Proofs.YtlddnpgcoekaaaaGreatDoor
