/- Pieces of the proof: Each. -/
import Derived.Test.YtclhmggnkhnnlaaGreatDoorM14
import Derived.Test.YtclhmggnkhnnlaaGreatDoorM2
/- Of every package: a loop over a function whose elements come with memory of their own. An iterator's word 'Each' says of each element in which world it is handed on; the loop's body never leaves the loop. -/
namespace Go.Proofs.YtclhmggnkhnnlaaGreatDoor
open Go.RowKit Go.Shelf

def Each {α : Type} (F : Fence) (n : Nat) (P : Program) (g : Nat) (lb : Array Value) (enc : α → Array Value) (El : α → World → World → Prop) (Kp : World → World → Prop) (S : List α → Prop) (N : Nat) (w : World) : Prop :=
  ∀ (l : Nat) (J : List α → World → Prop) (W : World), Below w.heap.size w W →
    (∀ pre x W0 W1, J pre W0 → pre.length < N → Below W0.heap.size W0 W1 → El x W0 W1 → YieldAt F (n - 1) P l (enc x) W1 fun e W' => e = .returned (.bool true) ∧ J (pre ++ [x]) W' ∧ Kp W1 W') →
    J [] W → CallsIn F n P g (#[.func (.yield l) #[] #[]] ++ lb) W fun e W' => (∃ v, e = .returned v) ∧ ∃ xs W0, S xs ∧ J xs W0 ∧ Below W0.heap.size W0 W'
theorem putObj_fr {l : Nat} (W : World) (o : Obj) : Fr (· = l) W (W.putObj l o) := ⟨rfl, rfl, rfl, by simp, fun b _ hn => World.putObj_heap_other hn⟩
theorem rangeFunc_each {α : Type} {F : Fence} {n : Nat} {P : Program} {g : Operand} {ps : Array Tmp} {assign body : Code} {Q : Exit → Act → World → Prop} {a : Act} {w : World}
    (hro : F.round = none) (h1 : 1 ≤ n) {gf : Nat} {lb : Array Value} (hg : a.eval g = .func (.func gf) #[] lb) (hFg : F.fn gf) (eg : ∀ args w, (callFunc gf args).run P w = .ok (.enter gf args) w)
    {enc : α → Array Value} {El : α → World → World → Prop} {E : Nat → Prop} {n₀ : Nat} (hn₀ : n₀ ≤ w.heap.size) {S : List α → Prop} {N : Nat} {w0 : World} (hseq : Each F (n - 1) P gf lb enc El (KeepBut E n₀) S N w0) (hb0 : Below w0.heap.size w0 w) (hps : ∀ x, (enc x).size = ps.size)
    (I : List α → World → Prop) (hIg : ∀ xs W W', Below W.heap.size W W' → I xs W → I xs W') (hIp : ∀ xs W l o o', w.heap.size ≤ l → W.heap[l]? = some o → o.isCells = false → I xs W → I xs (W.putObj l o')) (h0 : I [] w)
    (A : α → Nat → Act) (Ax : Nat → List α → α → Nat → World → Prop) (hAx : ∀ l pre x b W o o', w.heap.size ≤ l → W.heap[l]? = some (.loop o) → Ax l pre x b W → Ax l pre x b (W.putObj l o'))
    (hassign : ∀ (l : Nat) (pre : List α) (x : α) (W0 W1 : World), w.heap.size ≤ l → (∃ o, W0.heap[l]? = some (.loop o)) → I pre W0 → pre.length < N → Below W0.heap.size W0 W1 → El x W0 W1 → assign.wpIn (F.inRound l) (n - 1 - 1) P (Exit.then (fun a' W' => ∃ b, a' = A x b ∧ KeepsOthers W1 W' ∧ KeepBut E n₀ W1 W' ∧ Ax l pre x b W') (fun _ _ _ => False)) { tmps := (ps.zip (enc x)).foldl (fun t (p, v) => t.setIfInBounds p v) a.tmps, defers := [] } W1)
    (hbody : ∀ (l : Nat) (pre : List α) (x : α) (b : Nat) (W1 : World), w.heap.size ≤ l → Ax l pre x b W1 → body.wpIn (F.inRound l) (n - 1 - 1) P (fun e _ W' => e = .normal ∧ KeepsOthers W1 W' ∧ KeepBut E n₀ W1 W' ∧ I (pre ++ [x]) W') (A x b) W1)
    (hdone : ∀ (D : Nat) (xs : List α) (W : World), w.heap.size ≤ D → S xs → I xs W → W.heap[D]? = some (.deferred (some [])) → Q .normal { a with defers := { target := .collected D, args := #[] } :: a.defers } W) :
    (Code.rangeFunc g ps assign body).wpIn F n P Q a w := by
  refine wpIn_rangeFunc fun fn hfn => ?_
  rw [hro]
  generalize hD : w.heap.size = D at *
  obtain ⟨R, hR⟩ : ∃ R : LoopState → Loop, R = fun st => { state := st, pending := none, fn, tmps := a.tmps, params := ps, assign, body, defers := D } := ⟨_, rfl⟩
  have b1 : Below D w ((w.alloc (.deferred (some []))).alloc (.loop (R .ready))) := ((Below.refl D w).alloc (by omega) _).alloc (by simp; omega) _
  have g1 : ((w.alloc (.deferred (some []))).alloc (.loop (R .ready))).heap[D + 1]? = some (.loop (R .ready)) := by
    have := World.alloc_heap_new (w.alloc (.deferred (some []))) (.loop (R .ready))
    rwa [World.size_alloc, hD] at this
  have g2 : ((w.alloc (.deferred (some []))).alloc (.loop (R .ready))).heap[D]? = some (.deferred (some [])) := by
    have := World.alloc_heap_new w (.deferred (some []))
    rw [hD] at this
    exact (Below.heap_alloc _ _ _ (by simp; omega)).trans this
  refine ⟨D + 1, [{ target := .collected D, args := #[] }], (w.alloc (.deferred (some []))).alloc (.loop (R .ready)), { target := .fn (.func gf) lb, args := #[.func (.yield (D + 1)) #[] #[]] }, (w.alloc (.deferred (some []))).alloc (.loop (R .ready)), gf, #[.func (.yield (D + 1)) #[] #[]] ++ lb, (w.alloc (.deferred (some []))).alloc (.loop (R .ready)), ?_, ?_, ?_, ?_, fun _ => h1, ?_⟩
  · rw [hR, ← hD]; exact run_enterLoop_outer _ _ _ _ _
  · simp only [resolve, hg]
    simp [go_sem]
  · intro f' hf'
    simp [Target.leads] at hf'
    subst hf'
    exact hFg
  · simp [invoke, go_sem, eg]
  · generalize hW : (w.alloc (.deferred (some []))).alloc (.loop (R .ready)) = W at *
    have hIW : I [] W := hIg _ _ _ (by rw [hD]; exact b1) h0
    refine (hseq (D + 1) (fun xs Y => I xs Y ∧ Y.heap[D + 1]? = some (.loop (R .ready)) ∧ Y.heap[D]? = some (.deferred (some []))) W (hb0.trans (b1.mono (by rw [← hD]; exact hb0.size))) ?_ ⟨hIW, g1, g2⟩).mono ?_
    · rintro pre x A0 B ⟨hi, hl, hk⟩ hlen hAB hel
      have sA : D + 1 < A0.heap.size := (Array.getElem?_eq_some_iff.1 hl).1
      have hlB : B.heap[D + 1]? = some (.loop (R .ready)) := (hAB.block _ sA).trans hl
      have hkB : B.heap[D]? = some (.deferred (some [])) := (hAB.block _ (by omega)).trans hk
      have sB : D + 1 < B.heap.size := (Array.getElem?_eq_some_iff.1 hlB).1
      have hy := run_yield (P := P) (args := enc x) hlB (by rw [hR]; exact hps x)
      rw [hR] at hy
      refine ⟨fn, _, assign, body, hy, roundIn_of_wpIn hfn (wpIn_mono (hassign (D + 1) pre x A0 B (by omega) ⟨_, hl⟩ hi hlen hAB hel) ?_)⟩
      intro e a' B' hz
      cases e with
      | normal =>
        obtain ⟨bx, rfl, koB, kpB, hax⟩ := hz
        have hlB' := koB.same _ _ hlB rfl
        have hkB' := koB.same _ _ hkB rfl
        have sB' : D + 1 < B'.heap.size := (Array.getElem?_eq_some_iff.1 hlB').1
        refine ⟨_, run_beginRound hlB' (by rw [hR]), ?_⟩
        generalize hC : B'.putObj (D + 1) (.loop { R .ready with state := .busy }) = C
        have hlC : C.heap[D + 1]? = some (.loop (R .busy)) := by rw [← hC, hR]; exact World.putObj_heap_same sB'
        have hkC : C.heap[D]? = some (.deferred (some [])) := by rw [← hC]; exact (World.putObj_heap_other (by omega)).trans hkB'
        have kBC : KeepBut E n₀ B C := by rw [← hC]; exact kpB.t ⟨by simp, fun b hb _ => World.putObj_heap_other (by omega)⟩
        refine wpIn_mono (hbody (D + 1) pre x bx C (by omega) (by rw [← hC]; exact hAx _ _ _ _ _ _ _ (by omega) hlB' hax)) ?_
        rintro e a3 Z ⟨rfl, ko, kp, hi3⟩
        have hlZ := ko.same _ _ hlC rfl
        have hkZ := ko.same _ _ hkC rfl
        have hr := run_endRound (P := P) none hlZ
        rw [hR] at hr
        have sZ : D + 1 < Z.heap.size := (Array.getElem?_eq_some_iff.1 hlZ).1
        refine ⟨_, _, hr, rfl, ⟨hIp _ _ _ _ _ (by omega) hlZ rfl hi3, ?_, (World.putObj_heap_other (by omega)).trans hkZ⟩, ?_⟩
        · rw [World.putObj_heap_same sZ, hR]; rfl
        · exact (kBC.t kp).t ⟨by simp, fun b hb _ => World.putObj_heap_other (by omega)⟩
      | ret => exact hz.elim
      | exit id => exact hz.elim
      | goto t => exact hz.elim
      | panic ch => exact hz.elim
      | outgrown => exact hz.elim
    · rintro e Z ⟨⟨v, rfl⟩, xs, A0, hS, ⟨hi, hl, hk⟩, hAZ⟩
      have sA : D + 1 < A0.heap.size := (Array.getElem?_eq_some_iff.1 hl).1
      have hlZ : Z.heap[D + 1]? = some (.loop (R .ready)) := (hAZ.block _ sA).trans hl
      have hkZ : Z.heap[D]? = some (.deferred (some [])) := (hAZ.block _ (by omega)).trans hk
      have he := run_endLoop (P := P) hlZ (by rw [hR]; simp)
      rw [hR] at he
      exact ⟨none, _, he, hdone D xs _ (Nat.le_refl _) hS (hIp _ _ _ _ _ (by omega) hlZ rfl (hIg _ _ _ hAZ hi)) ((World.putObj_heap_other (by omega)).trans hkZ)⟩
end Go.Proofs.YtclhmggnkhnnlaaGreatDoor
