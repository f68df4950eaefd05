/- Words held against words. -/
import Derived.Test.YtfanhdjebmdniaaGreatDoorLM
namespace Go.Proofs.YtfanhdjebmdniaaGreatDoor
open Go.RowKit

theorem wcl_len (x : Wd × Nat) : (wcl x).length = 6 := rfl
theorem wcs_get : ∀ (L : List (Wd × Nat)) (i j : Nat) (hi : i < L.length) (_ : j < 6), (wcs L)[i * 6 + j]? = (wcl L[i])[j]?
  | [], i, j, hi, _ => by simp at hi
  | x :: L, 0, j, _, hj => by
    rw [wcs, List.map_cons, List.flatten_cons, List.getElem?_append_left (by rw [wcl_len]; omega)]
    simp
  | x :: L, i + 1, j, hi, hj => by
    rw [wcs, List.map_cons, List.flatten_cons, List.getElem?_append_right (by rw [wcl_len]; omega)]
    have := wcs_get L i j (by simpa using hi) hj
    rw [wcs] at this
    have e : (i + 1) * 6 + j - (wcl x).length = i * 6 + j := by rw [wcl_len]; omega
    rw [e, this]
    simp
def RdG (W : World) (g : Nat) (L : List (Wd × Nat)) : Prop := g < W.heap.size ∧ ∀ k (hk : k < L.length) j u, (wcl L[k])[j]? = some u → W.cell? ⟨g, k * 6 + j, none⟩ = some u
def SlW (W : World) (v : Value) (L : List (Wd × Nat)) : Prop := (v = .slice none 0 0 ∧ L = []) ∨ ∃ g cap, v = .slice (some ⟨g, 0, none⟩) L.length cap ∧ RdG W g L
theorem lt6 {α : Type} {l : List α} {j : Nat} {u : α} (hl : l.length = 6) (h : l[j]? = some u) : j < 6 := by
  have := (List.getElem?_eq_some_iff.1 h).1; omega
theorem OwnW.sl {W : World} {B : Nat} {v : Value} {L : List (Wd × Nat)} (h : OwnW W B v L) : SlW W v L := by
  obtain ⟨hl, ⟨rfl, h0⟩ | ⟨g, cap, cur, rfl, hb, hh, h1, h2, h3, h4⟩⟩ := h
  · exact .inl ⟨rfl, List.length_eq_zero_iff.1 h0⟩
  · refine .inr ⟨g, cap, rfl, (Array.getElem?_eq_some_iff.1 hh).1, fun k hk j u hu => ?_⟩
    have hj := lt6 (wcl_len _) hu
    have h5 := wcs_get L k j hk hj
    rw [hu, ← h4, List.getElem?_take, if_pos (by omega)] at h5
    simp [World.cell?, hh]
    rw [← Array.getElem?_toList]; exact h5
theorem RdG.keep {W W' : World} {g : Nat} {L : List (Wd × Nat)} (h : RdG W g L) (hb : Below W.heap.size W W') : RdG W' g L :=
  ⟨Nat.lt_of_lt_of_le h.1 hb.size, fun k hk j u hu => (hb.cell (p := ⟨g, k * 6 + j, none⟩) h.1).trans (h.2 k hk j u hu)⟩
theorem SlW.keep {W W' : World} {v : Value} {L : List (Wd × Nat)} (h : SlW W v L) (hb : Below W.heap.size W W') : SlW W' v L := by
  rcases h with h | ⟨g, cap, e, h⟩
  · exact .inl h
  · exact .inr ⟨g, cap, e, h.keep hb⟩
theorem slW_lit (W : World) (L : List (Wd × Nat)) (t : TypeId) (cap : Nat) : SlW (W.alloc (.cells (wcs L).toArray t)) (.slice (some ⟨W.heap.size, 0, none⟩) L.length cap) L := by
  refine .inr ⟨W.heap.size, cap, rfl, by simp, fun k hk j u hu => ?_⟩
  have hj := lt6 (wcl_len _) hu
  rw [World.cell?_alloc_new, List.getElem?_toArray, wcs_get L k j hk hj]
  exact hu
set_option maxRecDepth 100000 in
theorem sameW_yes (L : List (Wd × Nat)) (va vb : Value) (w : World) (hl : L.length ≤ 1000000) (ha : SlW w va L) (hb : SlW w vb L) :
    Calls Tryz.prog 9 #[va, vb] w fun e w' => e = .returned (.bool true) ∧ Below w.heap.size w w' := by
  rcases ha with ⟨rfl, rfl⟩ | ⟨g, c1, rfl, ha⟩
  · have hb' : ∃ ad cap, vb = .slice ad 0 cap := by
      rcases hb with ⟨rfl, _⟩ | ⟨g, cap, e, _⟩
      · exact ⟨_, _, rfl⟩
      · exact ⟨_, _, e⟩
    obtain ⟨ad, cap, rfl⟩ := hb'
    clear hb
    go_enter Tryz.func9, Tryz.ntmps9
    go_wp2
    go_loopg [5] 1 (fun g vi wr => wr = w ∧ vi = .int .i64 0)
    case atStart => exact ⟨rfl, rfl⟩
    case round =>
      obtain ⟨rfl, rfl⟩ := hrel
      go_wp2
      go_ret
      exact ⟨rfl, Below.refl _ _⟩
  · have hb' : ∃ ad cap, vb = .slice ad L.length cap ∧ (L = [] ∨ ∃ q, ad = some ⟨q, 0, none⟩ ∧ RdG w q L) := by
      rcases hb with ⟨rfl, rfl⟩ | ⟨q, cap, rfl, h⟩
      · exact ⟨_, _, rfl, .inl rfl⟩
      · exact ⟨_, _, rfl, .inr ⟨q, rfl, h⟩⟩
    obtain ⟨ad, cap, rfl, hq⟩ := hb'
    have HA := hide ha
    have HQ := hide hq
    clear ha hb hq
    go_enter Tryz.func9, Tryz.ntmps9
    go_wp2
    go_loopg [5] (L.length + 1) (fun gg vi wr => ∃ k : Nat, k ≤ L.length ∧ gg = L.length + 1 - k ∧ vi = .int .i64 (k : Int) ∧ Below w.heap.size w wr)
    case atStart => exact ⟨0, by omega, by omega, rfl, Below.refl _ _⟩
    case round =>
      obtain ⟨k, hk, rfl, rfl, hnx⟩ := hrel
      have HN := hide hnx
      by_cases hlt : k < L.length
      · obtain ⟨q, rfl, hq⟩ : ∃ q, ad = some ⟨q, 0, none⟩ ∧ RdG w q L := by
          rcases HQ.out with h | h
          · rw [h] at hlt; simp at hlt
          · exact h
        have h1 := HA.out.keep hnx
        have h2 := hq.keep hnx
        have a0 := h1.2 k hlt 0 _ rfl; have a1 := h1.2 k hlt 1 _ rfl; have a2 := h1.2 k hlt 2 _ rfl; have a3 := h1.2 k hlt 3 _ rfl; have a4 := h1.2 k hlt 4 _ rfl; have a5 := h1.2 k hlt 5 _ rfl
        have b0 := h2.2 k hlt 0 _ rfl; have b1 := h2.2 k hlt 1 _ rfl; have b2 := h2.2 k hlt 2 _ rfl; have b3 := h2.2 k hlt 3 _ rfl; have b4 := h2.2 k hlt 4 _ rfl; have b5 := h2.2 k hlt 5 _ rfl
        rw [Nat.add_zero] at a0 b0
        have hkI : (k : Int) < (L.length : Int) := by omega
        clear h1 h2 hq HA HQ hnx
        generalize L[k] = x at *
        obtain ⟨⟨xk, xs, xw, xv⟩, ln⟩ := x
        dsimp only at a0 a1 a2 a3 a4 a5 b0 b1 b2 b3 b4 b5
        generalize (xk : Int) = y0 at *
        generalize txt xs = y1 at *
        generalize (xw : Int) = y2 at *
        generalize wHi xv = y3 at *
        generalize wLo xv = y4 at *
        generalize (ln : Int) = y5 at *
        go_wp2
        go_region
        all_goals
          go_wp2
          go_roundg (L.length + 1 - (k + 1))
          case measure => omega
          case rel => exact ⟨k + 1, by omega, rfl, by congr 1, HN.out.drew⟩
      · have hkI : ¬ ((k : Int) < (L.length : Int)) := by omega
        clear HA HQ hnx
        go_wp2
        go_ret
        exact ⟨rfl, HN.out⟩
end Go.Proofs.YtfanhdjebmdniaaGreatDoor
