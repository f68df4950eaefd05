/- The iterator over the bits of numbers. -/
import Derived.Test.YtfniomfcfodojaaGreatDoorQRound
import Derived.Test.YtfniomfcfodojaaGreatDoorQWid
namespace Go.Proofs.YtfniomfcfodojaaGreatDoor
open Go.RowKit Go.Shelf

attribute [local go_sem] Oper.semAt_some

def nbit (n v j : Nat) : Bit01 := ⟨((v / 2 ^ (n - 1 - j) % 2 : Nat) : Int), by have := Nat.mod_lt (v / 2 ^ (n - 1 - j)) (by decide : 2 > 0); omega⟩
def nbits (n v k : Nat) : List Bit01 := (List.range k).map (nbit n v)
theorem nbits_length (n v k : Nat) : (nbits n v k).length = k := by simp [nbits]
theorem nbits_succ (n v k : Nat) : nbits n v (k + 1) = nbits n v k ++ [nbit n v k] := by simp [nbits, List.range_succ]
def stream (L : List (Int × Nat)) : Nat → List Bit01
  | 0 => []
  | i + 1 => stream L i ++ nbits (L.getD i (0, 0)).1.toNat (L.getD i (0, 0)).2 (L.getD i (0, 0)).1.toNat
theorem stream_succ (L : List (Int × Nat)) (i : Nat) (h : i < L.length) : stream L (i + 1) = stream L i ++ nbits L[i].1.toNat L[i].2 L[i].1.toNat := by
  rw [stream, List.getD_eq_getElem?_getD, List.getElem?_eq_getElem h]; rfl
theorem stream_length (L : List (Int × Nat)) (i : Nat) : (stream L i).length = sumTo L i := by
  induction i with
  | zero => rfl
  | succ i ih => rw [stream, List.length_append, ih, nbits_length, sumTo]
theorem sumTo_mono (L : List (Int × Nat)) {i j : Nat} (h : i ≤ j) : sumTo L i ≤ sumTo L j := by
  induction j with
  | zero => rw [Nat.le_zero.1 h]; exact Nat.le_refl _
  | succ j ih =>
    rcases Nat.lt_or_ge i (j + 1) with h' | h'
    · have := ih (by omega); rw [sumTo]; omega
    · rw [show i = j + 1 by omega]; exact Nat.le_refl _

/- All cells lie as they lay, but those of E. -/
def KeepC (E : Nat → Prop) (W W' : World) : Prop := W.heap.size ≤ W'.heap.size ∧ ∀ b o, W.heap[b]? = some o → o.isCells = true → ¬ E b → W'.heap[b]? = some o
theorem KeepC.refl {E : Nat → Prop} {W : World} : KeepC E W W := ⟨Nat.le_refl _, fun _ _ h _ _ => h⟩
theorem KeepC.t {E : Nat → Prop} {A B C : World} (h : KeepC E A B) (k : KeepC E B C) : KeepC E A C := ⟨Nat.le_trans h.1 k.1, fun b o hb ho he => k.2 b o (h.2 b o hb ho he) ho he⟩
theorem KeepC.b {E : Nat → Prop} {w : World} (W : World) (l : Nat) (o o' : Obj) (_ : w.heap.size ≤ l) (h : W.heap[l]? = some o) (hc : o.isCells = false) (_ : o.isWalk = false) : KeepC E W (W.putObj l o') :=
  ⟨by simp, fun b u hb hu _ => by
    by_cases e : b = l
    · subst e; rw [h] at hb; cases hb; rw [hc] at hu; cases hu
    · exact (World.putObj_heap_other (by omega)).trans hb⟩
theorem KeepC.ofBelow {E : Nat → Prop} {A B : World} (h : Below A.heap.size A B) : KeepC E A B := ⟨h.size, fun b _ hb _ _ => (h.block b (Array.getElem?_eq_some_iff.1 hb).1).trans hb⟩
theorem KeepC.alloc {E : Nat → Prop} {A B : World} (h : KeepC E A B) (o : Obj) : KeepC E A (B.alloc o) := h.t (KeepC.ofBelow ((Below.refl _ B).alloc (Nat.le_refl _) o))
theorem KeepC.drew {E : Nat → Prop} {A B : World} (h : KeepC E A B) : KeepC E A B.drew := h
theorem KeepC.setCell {E : Nat → Prop} {A B : World} (h : KeepC E A B) (p : Addr) (v : Value) (he : E p.block) : KeepC E A (B.setCell p v) :=
  ⟨by simpa using h.1, fun b o hb ho hne => (Below.heap_setCell _ _ _ _ (fun e => hne (by rw [e]; exact he))).trans (h.2 b o hb ho hne)⟩
theorem cell_block {W : World} {p : Addr} {v : Value} (h : W.cell? p = some v) : ∃ o, W.heap[p.block]? = some o ∧ o.isCells = true := by
  unfold World.cell? at h
  cases hb : W.heap[p.block]? with
  | none => rw [hb] at h; cases p; simp at h
  | some o =>
    refine ⟨o, rfl, ?_⟩
    rw [hb] at h
    cases o <;> first | rfl | (exfalso; revert h; cases p; rename_i s; cases s <;> simp)
theorem KeepC.cell {E : Nat → Prop} {W W' : World} (h : KeepC E W W') {p : Addr} {v : Value} (hc : W.cell? p = some v) (he : ¬ E p.block) : W'.cell? p = some v := by
  obtain ⟨o, ho, hi⟩ := cell_block hc
  rw [World.cell?_of_block (w := W) ((h.2 _ _ ho hi he).trans ho.symm)]
  exact hc
end Go.Proofs.YtfniomfcfodojaaGreatDoor
