/- The closures that say what is eaten; what is idle. -/
import Derived.Test.YtfanhdjebmdniaaGreatDoorLB
namespace Go.Proofs.YtfanhdjebmdniaaGreatDoor
open Go.RowKit

def isIn (S : List UInt8) (c : UInt8) : Bool := decide (0 ≤ Lib.indexByte S c)
theorem idx_mem : ∀ (S : List UInt8) (c : UInt8), 0 ≤ Lib.indexByte S c ↔ c ∈ S
  | [], c => by simp [Lib.indexByte]
  | b :: S, c => by
    have ih := idx_mem S c
    have hge := Lib.indexByte_ge S c
    have e : Lib.indexByte (b :: S) c = if b == c then 0 else if Lib.indexByte S c == -1 then -1 else Lib.indexByte S c + 1 := rfl
    rw [e, List.mem_cons]
    by_cases hb : b = c
    · subst hb; simp
    · have hb' : (b == c) = false := by simpa using hb
      have hcb : ¬ c = b := fun e => hb e.symm
      rw [hb']
      by_cases h1 : Lib.indexByte S c = -1
      · have h1' : (Lib.indexByte S c == -1) = true := by simpa using h1
        rw [h1']
        simp only [Bool.false_eq_true, if_false, if_true]
        constructor
        · intro h; omega
        · intro h; rcases h with h | h
          · exact absurd h hcb
          · have := ih.2 h; omega
      · have h1' : (Lib.indexByte S c == -1) = false := by simpa using h1
        rw [h1']
        simp only [Bool.false_eq_true, if_false]
        constructor
        · intro _; exact .inr (ih.1 (by omega))
        · intro _; omega
theorem isIn_iff (S : List UInt8) (c : UInt8) : isIn S c = true ↔ c ∈ S := by
  unfold isIn
  rw [decide_eq_true_eq]
  exact idx_mem S c
theorem u8_back (c : UInt8) : ((c.toNat : Int)).toNat.toUInt8 = c := by simp
theorem among_says (S : ByteArray) (b : Nat) (c : UInt8) (W : World) (h : W.cell? ⟨b, 0, none⟩ = some (.string S)) :
    Calls Tryz.prog 189 #[.int .u8 (c.toNat : Int), .pointer (some ⟨b, 0, none⟩)] W fun e w' => e = .returned (.bool (isIn S.data.toList c)) ∧ w' = W := by
  have HI := hide (fun W => Tryz.strings_IndexByte S (c.toNat : Int) W)
  rw [u8_back] at HI
  unfold isIn
  generalize Lib.indexByte S.data.toList c = x at *
  go_enter Tryz.func189, Tryz.ntmps189
  go_wp2_with fail
  refine (HI.out _).mono ?_
  rintro e w1 ⟨rfl, rfl⟩
  go_wp2
  go_ret
  exact ⟨rfl, rfl⟩
theorem none_says (S : ByteArray) (b : Nat) (c : UInt8) (W : World) (h : W.cell? ⟨b, 0, none⟩ = some (.string S)) :
    Calls Tryz.prog 192 #[.int .u8 (c.toNat : Int), .pointer (some ⟨b, 0, none⟩)] W fun e w' => e = .returned (.bool (!isIn S.data.toList c)) ∧ w' = W := by
  have HI := hide (fun W => Tryz.strings_IndexByte S (c.toNat : Int) W)
  rw [u8_back] at HI
  unfold isIn
  generalize Lib.indexByte S.data.toList c = x at *
  have e : (!decide (0 ≤ x)) = decide (x < 0) := by by_cases h : 0 ≤ x <;> simp [h] <;> omega
  rw [e]
  clear e
  go_enter Tryz.func192, Tryz.ntmps192
  go_wp2_with fail
  refine (HI.out _).mono ?_
  rintro e w1 ⟨rfl, rfl⟩
  go_wp2
  go_ret
  exact ⟨rfl, rfl⟩
theorem among_mk (S : ByteArray) (W : World) : Calls Tryz.prog 114 #[.string S] W fun e w' => e = .returned (.func (Fn.func 189) #[] #[.pointer (some ⟨W.heap.size, 0, none⟩)]) ∧ w' = W.alloc (.cells #[.string S] 9) := by
  go_enter Tryz.func114, Tryz.ntmps114
  go_wp2
  go_ret
  exact ⟨rfl, rfl⟩
theorem none_mk (S : ByteArray) (W : World) : Calls Tryz.prog 116 #[.string S] W fun e w' => e = .returned (.func (Fn.func 192) #[] #[.pointer (some ⟨W.heap.size, 0, none⟩)]) ∧ w' = W.alloc (.cells #[.string S] 9) := by
  go_enter Tryz.func116, Tryz.ntmps116
  go_wp2
  go_ret
  exact ⟨rfl, rfl⟩
theorem box_cell (W : World) (v : Value) (t : TypeId) : (W.alloc (.cells #[v] t)).cell? ⟨W.heap.size, 0, none⟩ = some v := by
  rw [World.cell?_alloc_new]; rfl
def isBl (c : UInt8) : Bool := isIn [32, 9, 10] c
def isAn (S : List UInt8) (c : UInt8) : Bool := isIn S c
def n10 (c : UInt8) : Bool := !isIn [10] c
theorem n10_iff (c : UInt8) : n10 c = true ↔ c ≠ 10 := by
  unfold n10
  rw [Bool.not_eq_true']
  have := isIn_iff [10] c
  cases h : isIn [10] c
  · rw [h] at this; simp at this ⊢; exact this
  · rw [h] at this; simp at this ⊢; exact this
theorem entersA : ∀ args w, (callFunc 189 args).run Tryz.prog w = .ok (.enter 189 args) w := enters_of Tryz.func189 (by kernel_rfl) rfl
theorem entersN : ∀ args w, (callFunc 192 args).run Tryz.prog w = .ok (.enter 192 args) w := enters_of Tryz.func192 (by kernel_rfl) rfl
/- eat, over a closure that was made just ahead of it. -/
theorem eat_among (S : ByteArray) (p n : Nat) (r : List UInt8) (W : World) (hT : Tx W p r n) (hr : r.length ≤ 1000000) (hn : n ≤ 1000000) :
    Calls Tryz.prog 113 #[.pointer (some ⟨p, 0, none⟩), .func (Fn.func 189) #[] #[.pointer (some ⟨W.heap.size, 0, none⟩)]] (W.alloc (.cells #[.string S] 9)) fun e w' => e = .returned (.string (txt (r.takeWhile (isIn S.data.toList)))) ∧ Tx w' p (r.dropWhile (isIn S.data.toList)) (n + c10 (r.takeWhile (isIn S.data.toList))) ∧ FrP p W w' := by
  refine (eat_any 189 W.heap.size p n (isIn S.data.toList) (.string S) r _ (hT.alloc _) hr hn (box_cell _ _ _) entersA (fun c W h => among_says S _ c W h)).mono fun e w' ⟨h1, h2, h3⟩ => ⟨h1, h2, ?_⟩
  exact (Fr.ofBelow ((Below.refl _ _).alloc (Nat.le_refl _) _)).trans h3 (fun _ _ e => e)
theorem eat_none (S : ByteArray) (p n : Nat) (r : List UInt8) (W : World) (hT : Tx W p r n) (hr : r.length ≤ 1000000) (hn : n ≤ 1000000) :
    Calls Tryz.prog 113 #[.pointer (some ⟨p, 0, none⟩), .func (Fn.func 192) #[] #[.pointer (some ⟨W.heap.size, 0, none⟩)]] (W.alloc (.cells #[.string S] 9)) fun e w' => e = .returned (.string (txt (r.takeWhile fun c => !isIn S.data.toList c))) ∧ Tx w' p (r.dropWhile fun c => !isIn S.data.toList c) (n + c10 (r.takeWhile fun c => !isIn S.data.toList c)) ∧ FrP p W w' := by
  refine (eat_any 192 W.heap.size p n (fun c => !isIn S.data.toList c) (.string S) r _ (hT.alloc _) hr hn (box_cell _ _ _) entersN (fun c W h => none_says S _ c W h)).mono fun e w' ⟨h1, h2, h3⟩ => ⟨h1, h2, ?_⟩
  exact (Fr.ofBelow ((Below.refl _ _).alloc (Nat.le_refl _) _)).trans h3 (fun _ _ e => e)
end Go.Proofs.YtfanhdjebmdniaaGreatDoor
