/- MatchAlone, walked for every case and every keys. -/
import Derived.Test.YtoonlpdohhconaaMvD
namespace Go.Proofs.Ytoonlpdohhconaa
open Go.RowKit

set_option maxRecDepth 100000 in
set_option maxHeartbeats 8000000 in
theorem matchAlone_any (x : TbL) (la : Option Addr) (lc : Nat) (l : List EnL) (y : EnL) (ka' : Option Addr) (kc' : Nat) (keys : List Nb) (w : World) (h : CaO w x la lc l y) (hcap : l.length ≤ lc) (hk : RdN w ka' keys) (hkr : ∀ b ∈ keys, NbR b) :
    Calls Try.prog 6 #[.agg (caCells x la lc l y), .slice ka' keys.length kc'] w fun e w' => e = .returned (.bool true) ∧ Below w.heap.size w w' := by
  by_cases hok : caSz x l y ≤ 30000 ∧ keys.length ≤ 1000 ∧ l.length ≤ 60
  · obtain ⟨h1, h2, h3⟩ := hok
    by_cases hneg : findE x.t (ens l) keys < 0
    · exact alone_a x la lc l y ka' kc' keys w h hcap hk hkr h2 h1 h3 hneg
    · exact alone_b x la lc l y ka' kc' keys w h hcap hk hkr h2 h1 h3 (findE x.t (ens l) keys).toNat (by omega)
  have HLV : Hid (Pure _ _ _) := lives_any
  have HBY : Hid (∀ W, Below w.heap.size w W → _) := fun W hb => beyond_any x la lc l y W ⟨h.t.below hb, h.es.below hb, h.ln, h.lz, h.e.below hb⟩
  have key : ((decide (30000 < caSz x l y) = true) ∨ (decide (30000 < caSz x l y) = false ∧ ((keys.length : Int) > 1000) = True) ∨ (decide (30000 < caSz x l y) = false ∧ ((keys.length : Int) > 1000) = False ∧ ((l.length : Int) > 60) = True)) := by
    by_cases h1 : 30000 < caSz x l y
    · exact .inl (by simp [h1])
    · have e1 : decide (30000 < caSz x l y) = false := by simp; omega
      by_cases h2 : (keys.length : Int) > 1000
      · exact .inr (.inl ⟨e1, eq_true h2⟩)
      · exact .inr (.inr ⟨e1, eq_false h2, eq_true (by omega)⟩)
  clear hok hk hkr h hcap
  obtain ⟨⟨ks, ws, size⟩, ka, kc, wa, wc⟩ := x
  obtain ⟨⟨ms, prio, act, args⟩, ma, mc, aa, ac⟩ := y
  rcases key with e1 | ⟨e1, k1⟩ | ⟨e1, k1, k2⟩
  all_goals
    rw [e1] at HBY
    clear e1
    simp only [caCells] at HBY ⊢
    go_enter Try.func6, Try.ntmps6
    go_wp2_with fail
    refine (HBY.out _ (below1 _ _)).mono ?_
    rintro e w1 ⟨rfl, hb⟩
    obtain ⟨b0, b1, b2, b3, b4, b5, b6, b7⟩ := at8 (heap_below hb (heap_alloc_new _ _))
    have B1 := hide (bstep (below1 _ _) hb)
    clear hb
    go_wp2_with fail
    refine (HLV.out _).mono ?_
    rintro e w2 ⟨rfl, hb2⟩
    go_wp2
    go_ret
    exact ⟨rfl, bstep B1.out hb2⟩
end Go.Proofs.Ytoonlpdohhconaa
