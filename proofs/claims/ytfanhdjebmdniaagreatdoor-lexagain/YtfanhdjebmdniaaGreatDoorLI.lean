/- The word ahead. -/
import Derived.Test.YtfanhdjebmdniaaGreatDoorLH
import Derived.Test.YtfanhdjebmdniaaGreatDoorLE
import Derived.Test.YtfanhdjebmdniaaGreatDoorUSt
import Derived.Shelf.Strings.SlTrimAscii
namespace Go.Proofs.YtfanhdjebmdniaaGreatDoor
open Go.RowKit

def dgS : List UInt8 := [48, 49, 50, 51, 52, 53, 54, 55, 56, 57]
def isD (c : UInt8) : Bool := isIn dgS c
theorem isD_contains (c : UInt8) : dgS.contains c = isD c := by
  have h := isIn_iff dgS c
  unfold isD
  cases hc : isIn dgS c
  · rw [hc] at h
    rw [List.contains_eq_mem, decide_eq_false (fun hm => by have := h.2 hm; cases this)]
  · rw [hc] at h
    rw [List.contains_eq_mem, decide_eq_true (h.1 rfl)]
theorem dropWhile_nil {P : UInt8 → Bool} : ∀ (l : List UInt8), l.dropWhile P = [] ↔ l.all P = true
  | [] => by simp
  | c :: l => by
    rw [List.dropWhile_cons, List.all_cons]
    cases h : P c
    · simp
    · simp only [if_true, Bool.true_and]; exact dropWhile_nil l
theorem trim_all (l : List UInt8) : Lib.trimS l dgS = [] ↔ l.all isD = true := by
  unfold Lib.trimS Lib.trimLeftS Lib.trimRightS
  have e : (fun x => dgS.contains x) = isD := funext isD_contains
  rw [e]
  constructor
  · intro h
    rw [dropWhile_nil, List.all_reverse] at h
    have e2 : l.reverse = l.reverse.takeWhile isD ++ l.reverse.dropWhile isD := List.takeWhile_append_dropWhile.symm
    have h3 : l.reverse.all isD = true := by
      rw [e2, List.all_append, h, Bool.and_true]
      exact List.all_takeWhile
    rw [List.all_reverse] at h3
    exact h3
  · intro h
    have h1 : l.reverse.dropWhile isD = [] := by rw [dropWhile_nil, List.all_reverse]; exact h
    rw [h1]; rfl
theorem trim_any (l : List UInt8) (hl : l.length ≤ 1000000) (w : World) : Calls Tryz.prog 197 #[.string (txt l), .string ⟨#[48, 49, 50, 51, 52, 53, 54, 55, 56, 57]⟩] w fun e w' => (∃ R, e = .returned (.string R) ∧ R.toList.isEmpty = l.all isD) ∧ Below w.heap.size w w' := by
  have := Any.strings_Trim_laid Tryz.lays160 (by kernel_rfl) (txt l) ⟨#[48, 49, 50, 51, 52, 53, 54, 55, 56, 57]⟩ w (by rw [txt_size]; omega) (by decide) (fun j b hb => by
    have hm := List.mem_of_getElem? hb
    have hall : ∀ x ∈ (⟨#[48, 49, 50, 51, 52, 53, 54, 55, 56, 57]⟩ : ByteArray).data.toList, x.toNat < 128 := by decide
    exact hall b hm)
  refine this.mono fun e w' ⟨h1, h2⟩ => ⟨⟨_, h1, ?_⟩, h2⟩
  rw [Lib.toList_data, txt_data]
  show (Lib.trimS l dgS).isEmpty = _
  have ha := trim_all l
  cases hb : l.all isD
  · rw [hb] at ha
    cases ht : Lib.trimS l dgS with
    | nil => rw [ht] at ha; exact absurd (ha.1 rfl) (by decide)
    | cons _ _ => rfl
  · rw [hb] at ha
    rw [ha.2 rfl]; rfl
theorem sgn_pre (r : List UInt8) : r.take (sgn r).length = sgn r ∧ (sgn r).length ≤ r.length := by
  unfold sgn
  cases h : sgs.find? (fun s => s.isPrefixOf r) with
  | none => simp
  | some s =>
    have := List.find?_some h
    simp only [Option.getD_some]
    rw [List.isPrefixOf_iff_prefix] at this
    exact ⟨(List.prefix_iff_eq_take.1 this).symm, this.length_le⟩
theorem sgn_c10 (r : List UInt8) : c10 (sgn r) = 0 := by
  have h : ∀ s ∈ sgs, c10 s = 0 := by decide
  unfold sgn
  cases h2 : sgs.find? (fun s => s.isPrefixOf r) with
  | none => rfl
  | some s => exact h s (List.mem_of_find?_eq_some h2)
/- the word of a run of letters and digits; where there is none, the sign ahead. -/
def wd1 (run r : List UInt8) : Option Wd × List UInt8 := match run with
  | [] => (signW (sgn r), r.drop (sgn r).length)
  | c :: l => if isD c then (if (c :: l).all isD then (wholeW (c :: l), r) else (numW (c :: l), r)) else (nameW (c :: l), r)
structure Ls (w : World) : Prop where
  ld : Ld w
  sg : w.rangeAt 0 0 sgL
theorem Ls.below {w w' : World} (h : Ls w) (hb : Below w.heap.size w w') : Ls w' := by
  refine ⟨h.ld.below hb, fun j v hv => ?_⟩
  have := h.sg j v hv
  exact (hb.cell (World.block_lt_of_cell? w _ this)).trans this
theorem gsg0 {w : World} (h : Ls w) : 0 < w.heap.size := World.block_lt_of_cell? w _ (h.sg 0 _ (sgL_at 0 (by decide)))
theorem frB {w0 W W' : World} {p : Nat} (hB : Below w0.heap.size w0 W) (hf : FrP p W W') (hp : w0.heap.size ≤ p) : Below w0.heap.size w0 W' := hB.trans (hf.below (fun b e => by rw [e]; exact hp) hB.size)
theorem heap_set_other {W : World} {b q o : Nat} {v : Value} (h : q ≠ b) : (W.setCell ⟨b, o, none⟩ v).heap[q]? = W.heap[q]? := Below.heap_setCell _ _ _ _ h
theorem Tx.set6 {W : World} {p b n : Nat} {r : List UInt8} (h : Tx W p r n) {x0 x1 x2 x3 x4 x5 : Value} (hb : p ≠ b) : Tx (set6 W b x0 x1 x2 x3 x4 x5) p r n := by
  unfold Tx at *
  unfold Go.Proofs.YtfanhdjebmdniaaGreatDoor.set6
  rw [heap_set_other hb, heap_set_other hb, heap_set_other hb, heap_set_other hb, heap_set_other hb, heap_set_other hb]
  exact h
theorem frset {w W : World} {p b o : Nat} (h : FrP p w W) (v : Value) (hb : w.heap.size ≤ b) : FrP p w (W.setCell ⟨b, o, none⟩ v) := by
  have hs := (Below.refl 0 W).setCell (p := ⟨b, o, none⟩) (Nat.zero_le _) v
  exact ⟨hs.os.trans h.os, hs.tape.trans h.tape, hs.output.trans h.output, Nat.le_trans h.size hs.size, fun q hq hn => by rw [heap_set_other (by omega)]; exact h.block q hq hn⟩
theorem frset6 {w W : World} {p b : Nat} (h : FrP p w W) {x0 x1 x2 x3 x4 x5 : Value} (hb : w.heap.size ≤ b) : FrP p w (set6 W b x0 x1 x2 x3 x4 x5) :=
  frset (frset (frset (frset (frset (frset h x0 hb) x1 hb) x2 hb) x3 hb) x4 hb) x5 hb
theorem afterCall {p n : Nat} {r : List UInt8} {w W1 : World} (hT : Tx w p r n) (hb : Below (w.alloc (.cells z6 68)).heap.size (w.alloc (.cells z6 68)) W1) :
    W1.heap[w.heap.size]? = some (.cells z6 68 (0, 0)) ∧ Tx W1 p r n ∧ FrP p w W1 :=
  ⟨(hb.block _ (by simp)).trans (heap_alloc_new w _), (hT.alloc _).below hb, (Fr.ofBelow ((Below.refl _ _).alloc (Nat.le_refl _) _)).trans (Fr.ofBelow hb) (fun _ _ e => e)⟩
end Go.Proofs.YtfanhdjebmdniaaGreatDoor
