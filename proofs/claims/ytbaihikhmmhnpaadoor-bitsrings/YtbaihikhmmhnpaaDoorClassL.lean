/- The like of Class for a long region: that the text's order serves is asked pair by pair. No program stands in it. -/
import Derived.Test.YtbaihikhmmhnpaaDoorClass
namespace Go.Proofs.YtbaihikhmmhnpaaDoor
open Go

def lexRest (ops : Array Oper) (k : Nat) (o : Oper) (rest : List Oper) : Bool := rest.all fun oj => oj.after.any (fun e => Region.binds .any e && e.on == k) || o.apart ops oj
def lexC (ops : Array Oper) : Nat → List Oper → Bool
  | _, [] => true
  | k, o :: rest => (o.after.all (fun e => !Region.binds .any e || decide (e.on < k)) && lexRest ops k o rest) && lexC ops (k + 1) rest
theorem getD_some {l : Array Bool} {j : Nat} {b d : Bool} (h : l[j]? = some b) : l.getD j d = b := by
  rw [Array.getD_eq_getD_getElem?, h]; rfl
theorem wpAnyQ_lexC {P : Program} {ops : Array Oper} {C : World → Prop} {Q : Act → Prop} (hs : Region.noSelect ops = true) : ∀ (l : List Oper) (k : Nat) (listed : Array Bool) (a : Act), (∀ j, l[j]? = ops[k + j]?) → k + l.length = ops.size →
    (∀ j, j < ops.size → listed[j]? = some (decide (j < k))) → lexC ops k l = true → wpQuiet P ops C Q l a → wpAnyQ P .any ops C Q l.length listed a
  | [], k, listed, a, hl, hn, hq, _, h => by
    refine ⟨List.eq_nil_iff_forall_not_mem.2 fun j hj => ?_, h⟩
    obtain ⟨h1, o, ho, _⟩ := mem_ready.1 hj
    have hlt : j < ops.size := (Array.getElem?_eq_some_iff.1 ho).1
    rw [getD_some (hq j hlt)] at h1
    simp at h1 hn
    omega
  | o :: l, k, listed, a, hl, hn, hq, hB, h => by
    have h0 : ops[k]? = some o := by simpa using (hl 0).symm
    simp only [lexC, Bool.and_eq_true] at hB
    obtain ⟨⟨hr, hf⟩, hB'⟩ := hB
    have hk : k < ops.size := (Array.getElem?_eq_some_iff.1 h0).1
    have hst : qOp P ops C k (wpQuiet P ops C Q l) a := by unfold qOp; simp only [h0]; exact h
    obtain ⟨v, hy, hK⟩ := yieldsIn_of_qOp h0 hst
    have hready : k ∈ Region.ready .any ops listed := by
      refine mem_ready.2 ⟨by rw [getD_some (hq k hk)]; simp, o, h0, fun e he hb => ?_⟩
      have h1 := Array.all_eq_true_iff_forall_mem.1 hr e he
      simp only [hb, Bool.not_true, Bool.false_or, decide_eq_true_eq] at h1
      rw [getD_some (hq e.on (by omega))]
      exact decide_eq_true h1
    refine wpAnyQ_first h0 (Region.noSelect_spec hs) l.length listed a (fun j oj hj hne hun hno => ?_) hready hy
      (wpAnyQ_lexC hs l (k + 1) _ _ (fun j => by have := hl (j + 1); simpa [Nat.add_assoc, Nat.add_comm 1 j] using this) (by simp at hn; omega) (fun j hj => ?_) hB' hK)
    · have hjs : j < ops.size := (Array.getElem?_eq_some_iff.1 hj).1
      rw [getD_some (hq j hjs)] at hun
      have hjk : ¬ j < k := by simpa using hun
      have hm : l[j - (k + 1)]? = some oj := by
        have := hl (j - (k + 1) + 1)
        rw [show k + (j - (k + 1) + 1) = j by omega, hj] at this
        simpa using this
      have h1 := List.all_eq_true.1 hf oj (List.mem_of_getElem? hm)
      rcases Bool.or_eq_true_iff.1 h1 with h2 | h2
      · obtain ⟨e, he, h3⟩ := Array.any_eq_true'.1 h2
        simp only [Bool.and_eq_true, beq_iff_eq] at h3
        exact absurd h3.2 (hno e he h3.1)
      · exact h2
    · rw [Array.getElem?_setIfInBounds]
      by_cases he : k = j
      · subst he
        have hsz : k < listed.size := (Array.getElem?_eq_some_iff.1 (hq k hk)).1
        simp [hsz]
      · rw [if_neg he, hq j hj]
        congr 1
        exact decide_eq_decide.2 (by omega)
theorem wp_region_classL {P : Program} {X : Type} (f : X → World) {id : Nat} {Q : Exit → Act → World → Prop} {a : Act} {w : World} {l : List Oper} (hm : P.follows .mixedOrders = true) (hs : Region.noSelect l.toArray = true) (hB : lexC l.toArray 0 l = true) (hC : ∃ x, { w with drawn := w.drawn + 1 } = f x)
    (h : wpQuiet P l.toArray (fun w' => ∃ x, w' = f x) (fun a' => ∀ w', (∃ x, w' = f x) → Q .normal a' w') l a) : (Code.region id l.toArray true).wp P Q a w := by
  refine wp_region_any hm (wpAny_of_quiet (C := fun w' => ∃ x, w' = f x) (Q := fun a' => ∀ w', (∃ x, w' = f x) → Q .normal a' w') (fun _ w' hw' h => h w' hw') _ _ _ _ hC ?_)
  have := wpAnyQ_lexC hs l 0 (Array.replicate l.toArray.size false) a (by simp) (by simp) (fun j hj => by simp at hj; simp [hj]) hB h
  simpa using this
end Go.Proofs.YtbaihikhmmhnpaaDoor
