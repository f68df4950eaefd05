/- Pieces of the proof: BnM, OwT. -/
import Derived.Test.YtclhmggnkhnnlaaGreatDoorM11
import Derived.RegionTactic
import Derived.Deep.LoopGhost
/- A Book's marks of ints and of numbers; one cell, or three, written into a list that is being filled. -/
namespace Go.Proofs.YtclhmggnkhnnlaaGreatDoor
open Go.RowKit

theorem row_ty {B e c n : Nat} {W : World} {v : Value} {xs : List Value} (h : W.ownsRow B e c v n xs) {b : Nat} (hb : v.ownBlock = some b) : ∃ cur, W.heap[b]? = some (.cells cur e (0, 0)) := by
  rcases h.2 with ⟨rfl, _⟩ | ⟨g, cap, cur, rfl, _, hh, _⟩
  · cases hb
  · have e : g = b := by simpa [Value.ownBlock] using hb
    subst e
    exact ⟨cur, hh⟩
theorem ty_ne {W : World} {b e e' : Nat} {cur cur' : Array Value} {f f' : Nat × Nat} (h : W.heap[b]? = some (.cells cur e f)) (h' : W.heap[b]? = some (.cells cur' e' f')) : e = e' := by
  rw [h] at h'
  injection h' with h'
  injection h'
theorem boxC (W : World) (a b c : Value) (t : TypeId) : (W.alloc (.cells #[a, b, c] t)).cell? ⟨W.heap.size, 0, none⟩ = some a ∧ (W.alloc (.cells #[a, b, c] t)).cell? ⟨W.heap.size, 1, none⟩ = some b ∧ (W.alloc (.cells #[a, b, c] t)).cell? ⟨W.heap.size, 2, none⟩ = some c := by
  have h : (W.alloc (.cells #[a, b, c] t)).heap[W.heap.size]? = some (.cells #[a, b, c] t (0, 0)) := heap_alloc_new W _
  unfold World.cell?; simp only [h]; exact ⟨rfl, rfl, rfl⟩
def mkInt (m : Nat) : List Value := [.int .i64 (-1000 - (m : Int))]
theorem mkInt_len (m : Nat) : (mkInt m).length = 1 := rfl
def mkNumber (m : Nat) : List Value := [.int .i64 (-1000 - (m : Int)), .int .u64 0, .int .u64 0]
theorem mkNumber_len (m : Nat) : (mkNumber m).length = 3 := rfl
theorem markInt_any (m : Nat) (hm : m < 1000000000) (W : World) : Calls Tryz.prog 141 #[.int .i64 (m : Int)] W fun e w' => e = .returned (.int .i64 (-1000 - (m : Int))) ∧ Below W.heap.size W w' := by
  have hw : IntKind.i64.wrap (-1000 - (m : Int)) = -1000 - (m : Int) := by rw [IntKind.wrap_i64]; omega
  go_enter Tryz.func141, Tryz.ntmps141
  go_wp2
  go_ret
  exact ⟨by first | rfl | (rw [hw]), Below.refl _ _⟩
theorem isInt_any (m : Nat) (hm : m < 1000000000) (W : World) : Calls Tryz.prog 171 #[.int .i64 (-1000 - (m : Int)), .int .i64 (m : Int)] W fun e w' => e = .returned (.bool true) ∧ Below W.heap.size W w' := by
  have hw : IntKind.i64.wrap (-1000 - (m : Int)) = -1000 - (m : Int) := by rw [IntKind.wrap_i64]; omega
  go_enter Tryz.func171, Tryz.ntmps171
  go_wp2
  go_ret
  exact ⟨by first | rfl | simp [hw], Below.refl _ _⟩
theorem markNumber_any (m : Nat) (hm : m < 1000000000) (W : World) : Calls Tryz.prog 146 #[.int .i64 (m : Int)] W fun e w' => e = .returned (.agg #[.int .i64 (-1000 - (m : Int)), .int .u64 0, .int .u64 0]) ∧ Below W.heap.size W w' := by
  have hw : IntKind.i64.wrap (-1000 - (m : Int)) = -1000 - (m : Int) := by rw [IntKind.wrap_i64]; omega
  go_enter Tryz.func146, Tryz.ntmps146
  go_wp2
  refine bodyPost_ret (v := .agg #[.int .i64 (-1000 - (m : Int)), .int .u64 0, .int .u64 0]) (by simp [results, Tryz.results146, go_sem]) rfl ⟨rfl, ?_⟩
  first
    | exact (Below.refl _ _).alloc (Nat.le_refl _) _
    | exact ((((Below.refl _ _).alloc (Nat.le_refl _) _).setCell (Nat.le_refl _) _).setCell (Nat.le_refl _) _).setCell (Nat.le_refl _) _
theorem isNumber_any (m : Nat) (hm : m < 1000000000) (W : World) : Calls Tryz.prog 176 #[.agg #[.int .i64 (-1000 - (m : Int)), .int .u64 0, .int .u64 0], .int .i64 (m : Int)] W fun e w' => e = .returned (.bool true) ∧ Below W.heap.size W w' := by
  have hw : IntKind.i64.wrap (-1000 - (m : Int)) = -1000 - (m : Int) := by rw [IntKind.wrap_i64]; omega
  go_enter Tryz.func176, Tryz.ntmps176
  go_wp2
  go_ret
  exact ⟨by first | rfl | simp [hw], (Below.refl _ _).alloc (Nat.le_refl _) _⟩
theorem fill1 {et : Nat} {wi : World} {B g n cap q : Nat} {k : List Value} (hk : k.length = 1) (h : ∃ rest, wi.ownsRow B et 1 (.slice (some ⟨g, 0, none⟩) n cap) n (mks k q ++ rest)) (hq : q < n) :
    (∃ r0, wi.cell? ⟨g, q, none⟩ = some r0) ∧
    (∀ j, wi.frozen? ⟨g, j, none⟩ = false) ∧
    ∀ x0, k = [x0] → ∀ W1, Fr (fun b => (Value.slice (some ⟨g, 0, none⟩) n cap).ownBlock = some b) W1 wi → FlInC et 1 k W1 (wi.setCell ⟨g, q, none⟩ x0) B (.slice (some ⟨g, 0, none⟩) n cap) n (q + 1) := by
  obtain ⟨rest, h⟩ := h
  have hl := h.1
  rw [List.length_append, mks_length hk] at hl
  obtain ⟨r0, rest', rfl⟩ : ∃ r0 r, rest = r0 :: r := by
    match rest, hl with
    | [], hl => simp at hl; omega
    | r0 :: r, _ => exact ⟨_, _, rfl⟩
  have hA : q = (mks k q).length := by rw [mks_length hk]; omega
  have hc : wi.cell? ⟨g, q, none⟩ = some r0 := by
    rw [World.ownsRow.cellAt h q (by omega), List.getElem?_append_right (by omega), ← hA, Nat.sub_self]; rfl
  refine ⟨⟨r0, hc⟩, fun j => World.ownsRow.frozenAt h j, fun x0 hx W1 hfr => ⟨⟨rest', ?_⟩, hfr.set ⟨g, q, none⟩ x0 rfl⟩⟩
  have h1 := (World.ownsRow.stored h q x0).1
  have e : (mks k q ++ r0 :: rest').set q x0 = mks k q ++ [x0] ++ rest' := by
    rw [List.set_append_right _ _ (by omega), ← hA, Nat.sub_self]; simp
  rw [e] at h1
  rw [mks_snoc, show mks k q ++ k = mks k q ++ [x0] by rw [← hx]]
  exact h1
theorem fill3 {et : Nat} {wi : World} {B g n cap q : Nat} {k : List Value} (hk : k.length = 3) (h : ∃ rest, wi.ownsRow B et 3 (.slice (some ⟨g, 0, none⟩) n cap) n (mks k q ++ rest)) (hq : q < n) :
    (∃ r0 r1 r2, wi.cell? ⟨g, q * 3, none⟩ = some r0 ∧ wi.cell? ⟨g, q * 3 + 1, none⟩ = some r1 ∧ wi.cell? ⟨g, q * 3 + 2, none⟩ = some r2) ∧
    (∀ j, wi.frozen? ⟨g, j, none⟩ = false) ∧
    ∀ x0 x1 x2, k = [x0, x1, x2] → ∀ W1, Fr (fun b => (Value.slice (some ⟨g, 0, none⟩) n cap).ownBlock = some b) W1 wi → FlInC et 3 k W1 (((wi.setCell ⟨g, q * 3, none⟩ x0).setCell ⟨g, q * 3 + 1, none⟩ x1).setCell ⟨g, q * 3 + 2, none⟩ x2) B (.slice (some ⟨g, 0, none⟩) n cap) n (q + 1) := by
  obtain ⟨rest, h⟩ := h
  have hl := h.1
  rw [List.length_append, mks_length hk] at hl
  obtain ⟨r0, r1, r2, rest', rfl⟩ : ∃ r0 r1 r2 r, rest = r0 :: r1 :: r2 :: r := by
    match rest, hl with
    | [], hl => simp at hl; omega
    | [_], hl => simp at hl; omega
    | [_, _], hl => simp at hl; omega
    | r0 :: r1 :: r2 :: r, _ => exact ⟨_, _, _, _, rfl⟩
  have hA : q * 3 = (mks k q).length := (mks_length hk q).symm
  have hc : ∀ j, j < 3 → wi.cell? ⟨g, q * 3 + j, none⟩ = (r0 :: r1 :: r2 :: rest')[j]? := fun j hj => by
    rw [World.ownsRow.cellAt h (q * 3 + j) (by omega), List.getElem?_append_right (by omega), ← hA, Nat.add_sub_cancel_left]
  refine ⟨⟨r0, r1, r2, hc 0 (by decide), hc 1 (by decide), hc 2 (by decide)⟩, fun j => World.ownsRow.frozenAt h j, fun x0 x1 x2 hx W1 hfr => ⟨⟨rest', ?_⟩, ((hfr.set ⟨g, q * 3, none⟩ x0 rfl).set ⟨g, q * 3 + 1, none⟩ x1 rfl).set ⟨g, q * 3 + 2, none⟩ x2 rfl⟩⟩
  have h1 := (World.ownsRow.stored (World.ownsRow.stored (World.ownsRow.stored h (q * 3) x0).1 (q * 3 + 1) x1).1 (q * 3 + 2) x2).1
  have e : (((mks k q ++ r0 :: r1 :: r2 :: rest').set (q * 3) x0).set (q * 3 + 1) x1).set (q * 3 + 2) x2 = mks k q ++ [x0, x1, x2] ++ rest' := by
    rw [List.set_append_right _ _ (by omega), List.set_append_right _ _ (by omega), List.set_append_right _ _ (by omega), hA]
    simp
  rw [e] at h1
  rw [mks_snoc, show mks k q ++ k = mks k q ++ [x0, x1, x2] by rw [← hx]]
  exact h1
theorem RdM.one {m : Nat} {W : World} {v : Value} {n : Nat} (h : RdM 1 W v n (mkInt m)) : ∃ a cap, v = .slice a n cap ∧ ∀ q, q < n → ∃ p, a = some ⟨p, 0, none⟩ ∧ W.cell? ⟨p, q, none⟩ = some (.int .i64 (-1000 - (m : Int))) := by
  obtain ⟨a, cap, rfl, hc⟩ := h
  refine ⟨a, cap, rfl, fun q hq => ?_⟩
  obtain ⟨p, rfl, h'⟩ := hc q (by omega)
  have e := mks_get (mkInt_len m) (n := n) (q := q) (j := 0) hq (by decide)
  rw [Nat.mul_one, Nat.add_zero] at e
  exact ⟨p, rfl, by rw [h', e]; rfl⟩
theorem RdM.three {m : Nat} {W : World} {v : Value} {n : Nat} (h : RdM 3 W v n (mkNumber m)) : ∃ a cap, v = .slice a n cap ∧ ∀ q, q < n → ∃ p, a = some ⟨p, 0, none⟩ ∧ W.cell? ⟨p, q * 3, none⟩ = some (.int .i64 (-1000 - (m : Int))) ∧ W.cell? ⟨p, q * 3 + 1, none⟩ = some (.int .u64 0) ∧ W.cell? ⟨p, q * 3 + 2, none⟩ = some (.int .u64 0) := by
  obtain ⟨a, cap, rfl, hc⟩ := h
  refine ⟨a, cap, rfl, fun q hq => ?_⟩
  have hj : ∀ j, j < 3 → q * 3 + j < n * 3 := fun j hj => by omega
  obtain ⟨p, rfl, _⟩ := hc (q * 3) (by omega)
  have hg : ∀ j, j < 3 → W.cell? ⟨p, q * 3 + j, none⟩ = (mkNumber m)[j]? := fun j hj3 => by
    obtain ⟨p', e, h'⟩ := hc (q * 3 + j) (hj j hj3)
    injection e with e
    injection e with e
    subst e
    rw [h', mks_get (mkNumber_len m) hq hj3]
  exact ⟨p, rfl, hg 0 (by decide), hg 1 (by decide), hg 2 (by decide)⟩
end Go.Proofs.YtclhmggnkhnnlaaGreatDoor
/- The type of a row's block (cut out of QvP). -/
namespace Go.Proofs.YtclhmggnkhnnlaaGreatDoor
open Go.RowKit

theorem own_ty {W : World} {B e c n b : Nat} {v : Value} {xs : List Value} (h : W.ownsRow B e c v n xs) (hb : v.ownBlock = some b) {cs : Array Value} {t : TypeId} {f : Nat × Nat} (hh : W.heap[b]? = some (.cells cs t f)) : t = e := by
  obtain ⟨c2, h3⟩ := row_ty h hb
  rw [hh] at h3
  injection h3 with h3
  injection h3 with _ h3 _
end Go.Proofs.YtclhmggnkhnnlaaGreatDoor
