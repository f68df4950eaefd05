/- PacketTakes, walked. -/
import Derived.Test.YtlddnpgcoekaaaaGreatDoorKSt
namespace Go.Proofs.YtlddnpgcoekaaaaGreatDoor
open Go.RowKit

theorem CK.lower {W : World} {B B' g : Nat} {a : Option Addr} {cap : Nat} {xs : List Nat} {t : Nat} (h : CK W B g a cap xs t) (hb : B' ≤ B) : CK W B' g a cap xs t := ⟨Nat.le_trans hb h.gB, h.cur, own8_lo h.own hb, h.le, h.l1⟩
theorem RC.lower {W : World} {B B' g : Nat} {v : Value} {xs : List Nat} {t : Nat} (h : RC W B g v xs t) (hb : B' ≤ B) : RC W B' g v xs t := ⟨Nat.le_trans hb h.gB, h.bk, own8_lo h.own hb, h.ne, h.le, h.l1⟩
theorem box3K (W : World) (t : TypeId) (x y z x' y' z' : Value) : ((((W.alloc (.cells #[x, y, z] t)).setCell ⟨W.heap.size, 0, none⟩ x').setCell ⟨W.heap.size, 1, none⟩ y').setCell ⟨W.heap.size, 2, none⟩ z').heap[W.heap.size]? = some (.cells #[x', y', z'] t (0, 0)) ∧ Below W.heap.size W ((((W.alloc (.cells #[x, y, z] t)).setCell ⟨W.heap.size, 0, none⟩ x').setCell ⟨W.heap.size, 1, none⟩ y').setCell ⟨W.heap.size, 2, none⟩ z') := by
  refine ⟨?_, below_set3 ((Below.refl _ W).alloc (Nat.le_refl _) _) (Nat.le_refl _) _ _ _⟩
  exact heap_setCell_same (heap_setCell_same (heap_setCell_same (heap_alloc_new W _) x') y') z'
theorem cells_box {W : World} {b : Nat} {x y z : Value} {t : TypeId} (h : W.heap[b]? = some (.cells #[x, y, z] t (0, 0))) : W.cell? ⟨b, 0, none⟩ = some x ∧ W.cell? ⟨b, 1, none⟩ = some y ∧ W.cell? ⟨b, 2, none⟩ = some z := by
  refine ⟨?_, ?_, ?_⟩ <;> simp [World.cell?, h]
/- New, on both sides. -/
def StO (xs : List Nat) : Option Nat := if xs.length ≤ 65536 then some 0 else none
def erO (xs : List Nat) : Int := if xs.length ≤ 65536 then 0 else 3
def Nw1 (w w' : World) (xs : List Nat) (pc : Value) : Prop := (xs.length ≤ 65536 ∧ ∃ g a c, pc = .pointer (some ⟨g, 0, none⟩) ∧ CK w' w.heap.size g a c xs 0) ∨ (65536 < xs.length ∧ pc = .pointer none)
def Nw2 (w w' : World) (xs : List Nat) (pr : Value) : Prop := (xs.length ≤ 65536 ∧ ∃ g v, pr = .pointer (some ⟨g, 0, none⟩) ∧ RC w' w.heap.size g v xs 0) ∨ (65536 < xs.length ∧ pr = .pointer none)
theorem new_one (a : Option Addr) (cap : Nat) (xs : List Nat) (w : World) (hr : RdA w a xs) (hn : a = none → cap = 0) :
    Calls Tryz.prog 5 #[.slice a xs.length cap] w fun e w' => ∃ p, e = .returned (.tuple #[.pointer p, .int .i64 (erO xs)]) ∧ p.isNone = decide (65536 < xs.length) ∧ Nw1 w w' xs (.pointer p) ∧ Below w.heap.size w w' := by
  by_cases h : xs.length ≤ 65536
  · refine (ck_new a cap xs w h hr hn).mono ?_
    rintro e w' ⟨g, a', c', rfl, hc, hb⟩
    refine ⟨_, by unfold erO; rw [if_pos h], ?_, .inl ⟨h, g, a', c', rfl, hc⟩, hb⟩
    rw [decide_eq_false (by omega)]
    rfl
  · refine (new_limit a xs.length cap w (by omega)).mono ?_
    rintro e w' ⟨rfl, rfl⟩
    refine ⟨_, by unfold erO; rw [if_neg h], ?_, .inr ⟨by omega, rfl⟩, Below.refl _ _⟩
    rw [decide_eq_true (by omega)]
    rfl
theorem new_two (a : Option Addr) (cap : Nat) (xs : List Nat) (w : World) (hr : RdA w a xs) (hn : a = none → cap = 0) :
    Calls Tryz.prog 6 #[.slice a xs.length cap] w fun e w' => ∃ p, e = .returned (.tuple #[.pointer p, .int .i64 (erO xs)]) ∧ p.isNone = decide (65536 < xs.length) ∧ Nw2 w w' xs (.pointer p) ∧ Below w.heap.size w w' := by
  by_cases h : xs.length ≤ 65536
  · refine (rnew_yes a cap xs w h hr hn).mono ?_
    rintro e w' ⟨g, v, rfl, hc, hb⟩
    refine ⟨_, by unfold erO; rw [if_pos h], ?_, .inl ⟨h, g, v, rfl, hc⟩, hb⟩
    rw [decide_eq_false (by omega)]
    rfl
  · refine (rnew_limit a xs.length cap w (by omega)).mono ?_
    rintro e w' ⟨rfl, rfl⟩
    refine ⟨_, by unfold erO; rw [if_neg h], ?_, .inr ⟨by omega, rfl⟩, Below.refl _ _⟩
    rw [decide_eq_true (by omega)]
    rfl
theorem sd_start {w w1 w2 w3 : World} {xs : List Nat} {pc pr : Value} (h1 : Nw1 w1 w2 xs pc) (h2 : Nw2 w2 w3 xs pr) (hb0 : w.heap.size < w1.heap.size) (hb1 : Below w1.heap.size w1 w2) (hb2 : Below w2.heap.size w2 w3) :
    ∃ g1 a cap g2 v, SD w3 w.heap.size xs pc pr g1 a cap g2 v (mk2 (StO xs) (StO xs)) ∧ (w.heap.size ≤ g1 ∧ w.heap.size ≤ g2) ∧ (∀ b, FtB g1 a xs.length cap g2 v b → b < w3.heap.size ∧ (xs.length ≤ 65536 → w1.heap.size ≤ b)) := by
  have s1 := hb1.size
  have s2 := hb2.size
  rcases h1 with ⟨hl, g1, a, cap, rfl, hc⟩ | ⟨hl, rfl⟩
  · rcases h2 with ⟨_, g2, v, rfl, hr⟩ | ⟨hl', _⟩
    · have hc3 := hc.next hb2
      have l1 := hc.cur.lt
      have e1 : ∀ b, (Value.slice a xs.length cap).ownBlock = some b → w1.heap.size ≤ b ∧ b < w2.heap.size := World.ownsRow.lt hc.own
      have e2 : ∀ b, v.ownBlock = some b → w2.heap.size ≤ b ∧ b < w3.heap.size := World.ownsRow.lt hr.own
      have l2 := hr.lt
      have b1 := hc.gB
      have b2 := hr.gB
      refine ⟨g1, a, cap, g2, v, ?_, ⟨by omega, by omega⟩, fun b hb => ?_⟩
      · unfold StO; rw [if_pos hl]
        exact ⟨rfl, rfl, hc3.lower (by omega), hr.lower (by omega), by omega, fun e => by have := e2 _ e; omega, fun e => by have := e1 _ e; omega⟩
      · rcases hb with rfl | rfl | hb | hb
        · exact ⟨by omega, fun _ => by omega⟩
        · exact ⟨by omega, fun _ => by omega⟩
        · have := e2 _ hb; exact ⟨by omega, fun _ => by omega⟩
        · have := e1 _ hb; exact ⟨by omega, fun _ => by omega⟩
    · omega
  · rcases h2 with ⟨hl', _⟩ | ⟨_, rfl⟩
    · omega
    · refine ⟨w.heap.size, none, 0, w.heap.size, .slice none 0 0, ?_, ⟨Nat.le_refl _, Nat.le_refl _⟩, fun b hb => ?_⟩
      · unfold StO; rw [if_neg (by omega)]; exact ⟨rfl, rfl⟩
      · rcases hb with rfl | rfl | hb | hb
        · exact ⟨by omega, fun _ => by omega⟩
        · exact ⟨by omega, fun _ => by omega⟩
        · cases hb
        · cases hb
end Go.Proofs.YtlddnpgcoekaaaaGreatDoor
