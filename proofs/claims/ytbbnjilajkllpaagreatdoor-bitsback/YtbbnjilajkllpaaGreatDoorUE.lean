/- strings.Cut at one byte, bits.guess and bits.Parse, whatever they are given. -/
import Derived.Test.YtbbnjilajkllpaaGreatDoorUD
import Derived.Lib.IndexLaws
namespace Go.Proofs.YtbbnjilajkllpaaGreatDoor
open Go.RowKit

theorem idx_w : ∀ (l : List UInt8), (Lib.indexByte l 119 = -1 ∧ cutL l = l ∧ cutR' l = []) ∨ ∃ o : Nat, Lib.indexByte l 119 = (o : Int) ∧ o < l.length ∧ cutL l = l.take o ∧ cutR' l = l.drop (o + 1)
  | [] => .inl ⟨rfl, rfl, rfl⟩
  | c :: l => by
    by_cases hc : c = 119
    · subst hc
      exact .inr ⟨0, by simp [Lib.indexByte], by simp, by simp [cutL, notW], by simp [cutR', notW]⟩
    · have hn : notW c = true := by simp [notW, hc]
      have hb : (c == 119) = false := by simpa using hc
      rcases idx_w l with ⟨h1, h2, h3⟩ | ⟨o, h1, h2, h3, h4⟩
      · exact .inl ⟨by simp [Lib.indexByte, hb, h1], by unfold cutL at h2 ⊢; rw [List.takeWhile_cons, hn]; simp only [if_true]; rw [h2], by unfold cutR' at h3 ⊢; rw [List.dropWhile_cons, hn]; simpa using h3⟩
      · refine .inr ⟨o + 1, ?_, by simp; omega, ?_, ?_⟩
        · have : ¬ ((o : Int) = -1) := by omega
          simp [Lib.indexByte, hb, h1, this]
        · unfold cutL at h3 ⊢; rw [List.takeWhile_cons, hn]; simp only [if_true]; rw [h3]; rfl
        · unfold cutR' at h4 ⊢; rw [List.dropWhile_cons, hn]; simpa using h4
theorem txt_ext (l : List UInt8) (a b : Nat) : (txt l).extract a b = txt ((l.take b).drop a) := by
  apply ByteArray.ext
  simp [txt, List.extract_eq_take_drop, List.drop_take]
theorem cutIn (l : List UInt8) (hl : l.length ≤ 9223372036854775806) (w : World) :
    Calls Tryz.prog 59 #[.string (txt l), .string ⟨#[119]⟩] w fun e w' => (∃ b, e = .returned (.tuple #[.string (txt (cutL l)), .string (txt (cutR' l)), .bool b])) ∧ Below w.heap.size w w' := by
  have HI := hide (Tryz.stringslite_Index_one (txt l) 119)
  have hsz := txt_size l
  rw [txt_data] at HI
  rcases idx_w l with ⟨h1, h2, h3⟩ | ⟨o, h1, h2, h3, h4⟩
  · rw [h1] at HI
    rw [h2, h3, txt_nil]
    clear h1 h2 h3
    generalize txt l = T at *
    go_enter Tryz.func59, Tryz.ntmps59
    go_wp2_with fail
    refine (HI.out _).mono ?_
    rintro e w1 ⟨rfl, rfl⟩
    go_wp2
    refine bodyPost_ret (v := .tuple #[.string T, .string ⟨#[]⟩, .bool false]) (by simp [results, Tryz.results59, go_sem]) rfl ⟨⟨_, rfl⟩, Below.refl _ _⟩
  · rw [h1] at HI
    have HE1 : Hid ((txt l).extract 0 o = txt (cutL l)) := by unfold Hid; rw [txt_ext, h3]; simp
    have HE2 : Hid ((txt l).extract (o + 1) (txt l).size = txt (cutR' l)) := by unfold Hid; rw [txt_ext, h4, txt_size, List.take_of_length_le (Nat.le_refl _)]
    clear h1 h3 h4
    generalize txt (cutL l) = A at *
    generalize txt (cutR' l) = B at *
    have ho : o < (txt l).size := by omega
    generalize txt l = T at *
    have hT : T.size ≤ 9223372036854775806 := by omega
    clear hsz h2 hl
    go_enter Tryz.func59, Tryz.ntmps59
    go_wp2_with fail
    refine (HI.out _).mono ?_
    rintro e w1 ⟨rfl, rfl⟩
    go_wp2
    go_region
    go_wp2
    refine bodyPost_ret (v := .tuple #[.string (T.extract 0 o), .string (T.extract (o + 1) T.size), .bool true]) (by simp [results, Tryz.results59, go_sem]) rfl ⟨⟨true, by rw [HE1.out, HE2.out]⟩, ?_⟩
    exact (Below.refl _ _).drew
theorem cutS_any (l : List UInt8) (hl : l.length ≤ 9223372036854775806) (w : World) :
    Calls Tryz.prog 28 #[.string (txt l), .string ⟨#[119]⟩] w fun e w' => (∃ b, e = .returned (.tuple #[.string (txt (cutL l)), .string (txt (cutR' l)), .bool b])) ∧ Below w.heap.size w w' := by
  have HI := hide (cutIn l hl)
  generalize txt (cutL l) = A at *
  generalize txt (cutR' l) = B at *
  generalize txt l = T at *
  clear hl
  go_enter Tryz.func28, Tryz.ntmps28
  go_wp2_with fail
  refine (HI.out _).mono ?_
  rintro e w1 ⟨⟨b, rfl⟩, hb⟩
  have HB := hide hb
  clear hb
  go_wp2
  refine bodyPost_ret (v := .tuple #[.string A, .string B, .bool b]) (by simp [results, Tryz.results28, go_sem]) rfl ⟨⟨_, rfl⟩, HB.out⟩
theorem cut_len (l : List UInt8) : (cutL l).length ≤ l.length ∧ (cutR' l).length ≤ l.length := by
  rcases idx_w l with ⟨_, h2, h3⟩ | ⟨o, _, _, h3, h4⟩
  · rw [h2, h3]; simp
  · rw [h3, h4]; simp; omega
theorem wh_lt (b : Nat) (l : List UInt8) : wh b l < 18446744073709551616 := by
  have h : ∀ (l : List UInt8) (acc n : Nat), acc ≤ 18446744073709551615 → pu b 18446744073709551615 acc l = .ok n → n ≤ 18446744073709551615 := by
    intro l
    induction l with
    | nil => intro acc n ha h; simp [pu] at h; omega
    | cons c l ih =>
      intro acc n ha h
      simp only [pu] at h
      split at h
      · cases h
      · split at h
        · cases h
        · exact ih _ _ (by omega) h
  unfold wh
  split
  · omega
  · split
    · have := h _ 0 _ (by omega) (by assumption); omega
    · omega
theorem gs_bd (l : List UInt8) : gsW l < 18446744073709551616 ∧ gsH l < 18446744073709551616 ∧ gsL l < 18446744073709551616 := ⟨wh_lt _ _, wh_lt _ _, wh_lt _ _⟩
def gsN (l : List UInt8) : Int := IntKind.i64.wrap (gsW l : Int)
/- A struct of three cells that may be written. -/
def Sh3 (b : Nat) (W : World) : Prop := ∃ cs : Array Value, W.heap[b]? = some (.cells cs 24 (0, 0)) ∧ cs.size = 3
def cv (W : World) (b i : Nat) : Value := (W.cell? ⟨b, i, none⟩).getD undef
theorem Sh3.cell {b i : Nat} {W : World} (h : Sh3 b W) (hi : i < 3) : W.cell? ⟨b, i, none⟩ = some (cv W b i) ∧ W.frozen? ⟨b, i, none⟩ = false := by
  obtain ⟨cs, h1, h2⟩ := h
  have : W.cell? ⟨b, i, none⟩ = some (cs[i]'(by omega)) := by simp [World.cell?, h1, Array.getElem?_eq_getElem (show i < cs.size by omega)]
  refine ⟨by unfold cv; rw [this]; rfl, by simp [World.frozen?, h1]⟩
theorem Sh3.set {b i : Nat} {W : World} (h : Sh3 b W) (v : Value) : Sh3 b (W.setCell ⟨b, i, none⟩ v) := by
  obtain ⟨cs, h1, h2⟩ := h
  refine ⟨cs.setIfInBounds i v, ?_, by simp [h2]⟩
  have hl := (Array.getElem?_eq_some_iff.1 h1).1
  simp [World.setCell, Array.getElem?_modify, h1]
theorem Sh3.below {b : Nat} {W W' : World} (h : Sh3 b W) (hb : Below W.heap.size W W') : Sh3 b W' := by
  obtain ⟨cs, h1, h2⟩ := h
  exact ⟨cs, (hb.block _ (Array.getElem?_eq_some_iff.1 h1).1).trans h1, h2⟩
theorem Sh3.got {b : Nat} {W : World} (h : Sh3 b W) (x y z : Value) : (((W.setCell ⟨b, 0, none⟩ x).setCell ⟨b, 1, none⟩ y).setCell ⟨b, 2, none⟩ z).heap[b]? = some (.cells #[x, y, z] 24 (0, 0)) := by
  obtain ⟨cs, h1, h2⟩ := h
  have hl := (Array.getElem?_eq_some_iff.1 h1).1
  obtain ⟨l⟩ := cs
  match l, h2 with
  | [a, b', c], _ => simp [World.setCell, Array.getElem?_modify, h1]
theorem cells_of3 {b : Nat} {W : World} {x y z : Value} (h : W.heap[b]? = some (.cells #[x, y, z] 24 (0, 0))) : W.cell? ⟨b, 0, none⟩ = some x ∧ W.cell? ⟨b, 1, none⟩ = some y ∧ W.cell? ⟨b, 2, none⟩ = some z ∧ W.frozen? ⟨b, 0, none⟩ = false ∧ W.frozen? ⟨b, 1, none⟩ = false ∧ W.frozen? ⟨b, 2, none⟩ = false := by
  refine ⟨?_, ?_, ?_, ?_, ?_, ?_⟩ <;> simp [World.cell?, World.frozen?, h]
def S3 (b : Nat) (w W : World) : Prop := Below w.heap.size w W ∧ Sh3 b W ∧ W.cell? ⟨b, 0, none⟩ = some (cv W b 0) ∧ W.cell? ⟨b, 1, none⟩ = some (cv W b 1) ∧ W.cell? ⟨b, 2, none⟩ = some (cv W b 2) ∧ W.frozen? ⟨b, 0, none⟩ = false ∧ W.frozen? ⟨b, 1, none⟩ = false ∧ W.frozen? ⟨b, 2, none⟩ = false
theorem S3.mk {b : Nat} {w W : World} (h : Below w.heap.size w W) (hs : Sh3 b W) : S3 b w W :=
  ⟨h, hs, (hs.cell (by omega)).1, (hs.cell (by omega)).1, (hs.cell (by omega)).1, (hs.cell (by omega)).2, (hs.cell (by omega)).2, (hs.cell (by omega)).2⟩
theorem S3.call {b : Nat} {w W W' : World} (h : Below w.heap.size w W) (hs : Sh3 b W) (hb : Below W.heap.size W W') : S3 b w W' := S3.mk (h.trans (hb.mono h.size)) (hs.below hb)
theorem S3.drew {b : Nat} {w W : World} (h : Below w.heap.size w W) (hs : Sh3 b W) : S3 b w W.drew := S3.mk h.drew (by obtain ⟨cs, h1, h2⟩ := hs; exact ⟨cs, h1, h2⟩)
theorem S3.store {w W : World} (h : Below w.heap.size w W) (hs : Sh3 w.heap.size W) (x y z : Value) : S3 w.heap.size w (((W.setCell ⟨w.heap.size, 0, none⟩ x).setCell ⟨w.heap.size, 1, none⟩ y).setCell ⟨w.heap.size, 2, none⟩ z) :=
  S3.mk (((h.setCell (Nat.le_refl _) x).setCell (Nat.le_refl _) y).setCell (Nat.le_refl _) z) (((hs.set x).set y).set z)
def WOk (x : ByteArray) (b : Int) : Prop := (b = 10 ∨ b = 16) ∧ x.size ≤ 281474976710656
def whI (b : Int) (x : ByteArray) : Int := ((wh b.toNat x.data.toList : Nat) : Int)
theorem whole_all (x : ByteArray) (b : Int) (h : WOk x b) (w : World) (hL : Ld w) :
    Calls Tryz.prog 29 #[.string x, .int .i64 b] w fun e w' => e = .returned (.int .u64 (whI b x)) ∧ Below w.heap.size w w' := by
  obtain ⟨h1, h2⟩ := h
  rw [txt_of x] at h2 ⊢
  rw [txt_size] at h2
  rcases h1 with rfl | rfl
  · have := whole10 x.data.toList h2 w hL
    simpa only [whI, txt_data, show Int.toNat 10 = 10 from rfl] using this
  · have := whole16 x.data.toList h2 w hL
    simpa only [whI, txt_data, show Int.toNat 16 = 16 from rfl] using this
set_option maxHeartbeats 4000000 in
set_option maxRecDepth 100000 in
theorem guess_any (l : List UInt8) (hl : l.length ≤ 281474976710656) (w : World) (hL : Ld w) :
    Calls Tryz.prog 22 #[.string (txt l)] w fun e w' => e = .returned (.agg #[.int .i64 (gsN l), .int .u64 (gsH l : Nat), .int .u64 (gsL l : Nat)]) ∧ Below w.heap.size w w' := by
  have HC := hide (cutS_any l (by omega))
  have hcl := cut_len l
  have HW3 := hide whole_all
  have oU : WOk (txt (cutL l)) 10 := ⟨.inl rfl, by rw [txt_size]; omega⟩
  have o1 : WOk (txt ((cutR' l).take ((cutR' l).length - 16))) 16 := ⟨.inr rfl, by rw [txt_size, List.length_take]; omega⟩
  have o2 : WOk (txt ((cutR' l).drop ((cutR' l).length - 16))) 16 := ⟨.inr rfl, by rw [txt_size, List.length_drop]; omega⟩
  have hw : IntKind.i64.wrap (whI 10 (txt (cutL l))) = gsN l := by unfold whI gsN gsW; rw [txt_data]; rfl
  have HV1 : Hid (whI 16 (txt ((cutR' l).take ((cutR' l).length - 16))) = ((gsH l : Nat) : Int)) := by unfold Hid whI gsH; rw [txt_data]; rfl
  have HV2 : Hid (whI 16 (txt ((cutR' l).drop ((cutR' l).length - 16))) = ((gsL l : Nat) : Int)) := by unfold Hid whI gsL; rw [txt_data]; rfl
  generalize (gsH l : Int) = h1 at *
  generalize (gsL l : Int) = l1 at *
  generalize gsN l = n1 at *
  have hV := txt_size (cutR' l)
  have HE1 : Hid ((txt (cutR' l)).extract 0 ((cutR' l).length - 16) = txt ((cutR' l).take ((cutR' l).length - 16))) := by unfold Hid; rw [txt_ext]; simp
  have HE2 : Hid ((txt (cutR' l)).extract ((cutR' l).length - 16) (txt (cutR' l)).size = txt ((cutR' l).drop ((cutR' l).length - 16))) := by unfold Hid; rw [txt_ext, txt_size, List.take_of_length_le (Nat.le_refl _)]
  have hq : (cutR' l).length ≤ 281474976710656 := by omega
  generalize txt ((cutR' l).take ((cutR' l).length - 16)) = P1 at *
  generalize txt ((cutR' l).drop ((cutR' l).length - 16)) = P2 at *
  generalize (cutR' l).length = q at *
  generalize txt (cutR' l) = V at *
  generalize txt (cutL l) = U at *
  generalize txt l = T at *
  have HL := hide hL
  obtain ⟨k, hk⟩ : ∃ k, k = q - 16 := ⟨_, rfl⟩
  rw [← hk] at HE1 HE2
  have hmax : max ((q : Int) - 16) 0 = (k : Int) := by omega
  have hkV : k ≤ V.size := by omega
  have hq63 : V.size ≤ 281474976710656 := by omega
  clear hL hl hcl hk
  subst hV
  go_enter Tryz.func22, Tryz.ntmps22
  go_wp2_with fail
  refine (HC.out _).mono ?_
  rintro e w1 ⟨⟨b, rfl⟩, hb⟩
  have hz : w.heap.size < w1.heap.size := by have := hb.size; simp at this; omega
  have HW : Hid (Below w.heap.size w w1) := ((Below.refl _ _).alloc (Nat.le_refl _) _).trans (hb.mono (by simp))
  have hblk : w1.heap[w.heap.size]? = some (.cells #[.int .i64 0, .int .u64 0, .int .u64 0] 24 (0, 0)) := (hb.block _ (by simp)).trans (heap_alloc_new w _)
  have HL1 := hide (HL.out.below HW.out)
  clear hb
  have HSh : Sh3 w.heap.size w1 := ⟨_, hblk, rfl⟩
  have HS := hide (S3.drew HW.out HSh)
  have e1 := HE1.out
  have e2 := HE2.out
  have hkI0 : (0 : Int) ≤ (k : Int) := by omega
  have hkI1 : (k : Int) ≤ (V.size : Int) := by omega
  clear hblk hq HSh
  go_wp2
  go_region_held3 (fun w' => Below w.heap.size w w' ∧ Sh3 w.heap.size w' ∧ w'.cell? ⟨w.heap.size, 0, none⟩ = some (cv w' w.heap.size 0) ∧ w'.cell? ⟨w.heap.size, 1, none⟩ = some (cv w' w.heap.size 1) ∧ w'.cell? ⟨w.heap.size, 2, none⟩ = some (cv w' w.heap.size 2) ∧ w'.frozen? ⟨w.heap.size, 0, none⟩ = false ∧ w'.frozen? ⟨w.heap.size, 1, none⟩ = false ∧ w'.frozen? ⟨w.heap.size, 2, none⟩ = false)
    (first | exact S3.store (And.left (by assumption)) (And.left (And.right (by assumption))) _ _ _ | exact S3.call (And.left (by assumption)) (And.left (And.right (by assumption))) (by assumption) | exact HS.out)
    (first
      | (go_at_call 29; refine (HW3.out _ _ (by assumption) _ (HL.out.below (And.left (by assumption) : Below w.heap.size w _))).mono ?_; rintro e w' ⟨rfl, hb1⟩))
  rename_i hHeld
  have hg := Sh3.got (((HS.out.2.1.below (by assumption)).below (by assumption)).below (by assumption)) (.int .i64 n1) (.int .u64 (whI 16 P1)) (.int .u64 (whI 16 P2))
  have HF := hide hHeld.1
  clear hHeld
  generalize ((World.setCell _ ⟨w.heap.size, 0, none⟩ (.int .i64 n1)).setCell ⟨w.heap.size, 1, none⟩ (.int .u64 (whI 16 P1))).setCell ⟨w.heap.size, 2, none⟩ (.int .u64 (whI 16 P2)) = WF at *
  obtain ⟨g0, g1, g2, _, _, _⟩ := cells_of3 hg
  clear hg
  rw [HV1.out] at g1
  rw [HV2.out] at g2
  go_wp2
  refine bodyPost_ret (v := .agg #[.int .i64 n1, .int .u64 h1, .int .u64 l1]) (by simp [results, Tryz.results22, go_sem, g0, g1, g2]) rfl ⟨rfl, HF.out⟩
end Go.Proofs.YtbbnjilajkllpaaGreatDoor
