/- Pieces of the proof: WBs, UCk, UD, UE, LF, UF, UA31. -/
import Derived.Test.YtcfopkaomknmjaaGreatDoorM3
import Derived.Lib.IndexLaws
import Derived.Test.YtcfopkaomknmjaaGreatDoorM1
/- cut and Check, told by value. -/
namespace Go.Proofs.YtcfopkaomknmjaaGreatDoor
open Go.RowKit

def okN (n : Int) (v : Nat) : Bool := mayBe n && decide (v < 2 ^ n.toNat)
theorem cutV (n X Y : Int) (v : Nat) (w : World) (m0 : 1 ≤ n) (m1 : n ≤ 128) (hv : v < top) (hX : X = wHi v) (hY : Y = wLo v) :
    Calls Tryz.prog 86 #[.int .i64 n, .int .u64 X, .int .u64 Y] w fun e w' => e = .returned (.agg #[.int .i64 n, .int .u64 (wHi (v % 2 ^ n.toNat)), .int .u64 (wLo (v % 2 ^ n.toNat))]) ∧ Below w.heap.size w w' := by
  subst hX hY
  have h := cut_any n (wHi v) (wLo v) w m0 m1 (wHi_bd hv).1 (wHi_bd hv).2 (wLo_bd v).1 (wLo_bd v).2
  rw [cut_hi n v m0, cut_lo n v m0] at h
  exact h
theorem cutR (n X Y rh rl : Int) (v : Nat) (w : World) (m0 : 1 ≤ n) (m1 : n ≤ 128) (hv : v < top) (hX : X = wHi v) (hY : Y = wLo v) (hh : wHi (v % 2 ^ n.toNat) = rh) (hl : wLo (v % 2 ^ n.toNat) = rl) :
    Calls Tryz.prog 86 #[.int .i64 n, .int .u64 X, .int .u64 Y] w fun e w' => e = .returned (.agg #[.int .i64 n, .int .u64 rh, .int .u64 rl]) ∧ Below w.heap.size w w' := by
  subst hh hl
  exact cutV n X Y v w m0 m1 hv hX hY
theorem checkV (n : Int) (v : Nat) (w : World) (hv : v < top) :
    Calls Tryz.prog 38 #[.agg #[.int .i64 n, .int .u64 (wHi v), .int .u64 (wLo v)]] w fun e w' => e = .returned (.bool (mayBe n && decide (v < 2 ^ n.toNat))) ∧ Below w.heap.size w w' := by
  have h := check_any n (wHi v) (wLo v) w (wHi_bd hv).1 (wHi_bd hv).2 (wLo_bd v).1 (wLo_bd v).2
  have e : okB n (wHi v) (wLo v) = (mayBe n && decide (v < 2 ^ n.toNat)) := by
    unfold okB
    cases hm : mayBe n
    · rfl
    · have h0 : 1 ≤ n ∧ n ≤ 128 := by simpa [mayBe] using hm
      rw [ok_iff n v h0.1]
  rw [e] at h
  exact h
end Go.Proofs.YtcfopkaomknmjaaGreatDoor
/- The numbers that may be. -/
/- bits.Text, whatever it is given. -/
namespace Go.Proofs.YtcfopkaomknmjaaGreatDoor
open Go.RowKit

theorem tx_le (n v : Nat) (hn : n ≤ 128) (hv : v < 340282366920938463463374607431768211456) : (Lib.decDigits n).length ≤ 3 ∧ (hx v).length ≤ 32 := by
  constructor
  · have h : ∀ m : Fin 129, (Lib.decDigits m.val).length ≤ 3 := by decide +kernel
    exact h ⟨n, by omega⟩
  · have e : (340282366920938463463374607431768211456 : Nat) = 16 ^ 32 := by decide
    rw [e] at hv
    have h : ∀ (k v : Nat), v < 16 ^ (k + 1) → (hx v).length ≤ k + 1 := by
      intro k
      induction k with
      | zero => intro v h; rw [hx_small (by simpa using h)]; simp
      | succ k ih =>
        intro v h
        by_cases hs : v < 16
        · rw [hx_small hs]; simp
        · rw [hx_big hs, List.length_append]
          have := ih (v / 16) (by rw [Nat.pow_succ] at h; omega)
          simp; omega
    exact h 31 v hv
theorem text_no (n : Int) (v : Nat) (w : World) (hv : v < top) (ho : okN n v = false) :
    Calls Tryz.prog 23 #[.agg #[.int .i64 n, .int .u64 (wHi v), .int .u64 (wLo v)]] w fun e w' => e = .returned (.tuple #[.string (txt []), .int .i64 1]) ∧ Below w.heap.size w w' := by
  have HC : Hid (∀ W, Calls Tryz.prog 38 #[.agg #[.int .i64 n, .int .u64 (wHi v), .int .u64 (wLo v)]] W fun e W' => e = .returned (.bool false) ∧ Below W.heap.size W W') := fun W => by
    have := checkV n v W hv
    rw [show (mayBe n && decide (v < 2 ^ n.toNat)) = okN n v from rfl, ho] at this
    exact this
  generalize wHi v = h1 at *
  generalize wLo v = l1 at *
  clear ho hv
  go_enter Tryz.func23, Tryz.ntmps23
  go_wp2_with fail
  refine (HC.out _).mono ?_
  rintro e w1 ⟨rfl, hb⟩
  have HW : Hid (Below w.heap.size w w1) := ((Below.refl _ _).alloc (Nat.le_refl _) _).trans (hb.mono (by simp))
  clear hb
  go_wp2
  go_ret2
  exact ⟨rfl, HW.out⟩
theorem w_joinN (v : Nat) : (wHi v).toNat * 18446744073709551616 + (wLo v).toNat = v := by unfold wHi wLo; omega
theorem text_yes (n : Int) (v : Nat) (w : World) (hL : Ld w) (hv : v < top) (ho : okN n v = true) :
    Calls Tryz.prog 23 #[.agg #[.int .i64 n, .int .u64 (wHi v), .int .u64 (wLo v)]] w fun e w' => e = .returned (.tuple #[.string (txt (tx n.toNat v)), .int .i64 0]) ∧ Below w.heap.size w w' := by
  have HC : Hid (∀ W, Calls Tryz.prog 38 #[.agg #[.int .i64 n, .int .u64 (wHi v), .int .u64 (wLo v)]] W fun e W' => e = .returned (.bool true) ∧ Below W.heap.size W W') := fun W => by
    have := checkV n v W hv
    rw [show (mayBe n && decide (v < 2 ^ n.toNat)) = okN n v from rfl, ho] at this
    exact this
  have hn : 1 ≤ n ∧ n ≤ 128 := by
    unfold okN mayBe at ho
    simp at ho
    exact ⟨by omega, by omega⟩
  obtain ⟨N, rfl⟩ : ∃ N : Nat, n = (N : Int) := ⟨n.toNat, by omega⟩
  have HD : Hid (∀ W, Ld W → Calls Tryz.prog 40 #[.int .u64 (wHi v), .int .u64 (wLo v)] W fun e w' => e = .returned (.string (txt (hx v))) ∧ Below W.heap.size W w') := fun W h => by
    have := digits_any (wHi v).toNat (wLo v).toNat (by have := wHi_bd hv; omega) (by have := (wLo_bd v); omega) W h
    rw [w_joinN] at this
    have e1 : (((wHi v).toNat : Nat) : Int) = wHi v := by have := wHi_bd hv; omega
    have e2 : (((wLo v).toNat : Nat) : Int) = wLo v := by have := wLo_bd v; omega
    rw [e1, e2] at this
    exact this
  have HI : Hid (∀ W, Ld W → _) := fun W h => itoa_any N (by omega) W h
  have hle := tx_le N v (by omega) (by unfold top at hv; exact hv)
  have HX : Hid ((txt (Lib.decDigits N) ++ txt [119]) ++ txt (hx v) = txt (tx N v)) := by unfold Hid; rw [cat_txt, cat_txt]; congr 1; simp [tx]
  rw [Int.toNat_natCast]
  have hs1 : ¬ 9223372036854775807 < (txt (Lib.decDigits N)).size + 1 := by rw [txt_size]; omega
  have hs2 : ¬ 9223372036854775807 < (txt (Lib.decDigits N)).size + 1 + (txt (hx v)).size := by rw [txt_size, txt_size]; omega
  generalize txt (tx N v) = R at *
  generalize txt (Lib.decDigits N) = A at *
  generalize txt (hx v) = B at *
  generalize wHi v = h1 at *
  generalize wLo v = l1 at *
  generalize (N : Int) = NI at *
  have HL := hide hL
  clear ho hL hle hn
  go_enter Tryz.func23, Tryz.ntmps23
  go_wp2_with fail
  refine (HC.out _).mono ?_
  rintro e w1 ⟨rfl, hb⟩
  have hz : w.heap.size < w1.heap.size := by have := hb.size; simp at this; omega
  have hk := cells3T hb
  have HW : Hid (Below w.heap.size w w1) := ((Below.refl _ _).alloc (Nat.le_refl _) _).trans (hb.mono (by simp))
  have HL1 := hide (HL.out.below HW.out)
  have hlt : w.heap.size < w1.heap.size := hz
  clear hb
  obtain ⟨hk0, hk1, hk2⟩ := hk
  have HH : Hid (∀ w', Below w1.heap.size w1 w' → Below w1.heap.size w1 w' ∧ w'.cell? ⟨w.heap.size, 0, none⟩ = some (.int .i64 NI) ∧ w'.cell? ⟨w.heap.size, 1, none⟩ = some (.int .u64 h1) ∧ w'.cell? ⟨w.heap.size, 2, none⟩ = some (.int .u64 l1)) :=
    fun w' h => ⟨h, (h.cell hlt).trans hk0, (h.cell hlt).trans hk1, (h.cell hlt).trans hk2⟩
  go_wp2
  go_region_held3 (fun w' => Below w1.heap.size w1 w' ∧ w'.cell? ⟨w.heap.size, 0, none⟩ = some (.int .i64 NI) ∧ w'.cell? ⟨w.heap.size, 1, none⟩ = some (.int .u64 h1) ∧ w'.cell? ⟨w.heap.size, 2, none⟩ = some (.int .u64 l1)) (first | exact keepS HH.out (by assumption) (And.left (by assumption)) (Nat.le_refl _) | exact HH.out _ (Below.refl _ _).drew)
    (first
      | (go_at_call 39; refine (HI.out _ (HL1.out.below (And.left (by assumption) : Below w1.heap.size w1 _))).mono ?_; rintro e w' ⟨rfl, hb1⟩)
      | (go_at_call 40; refine (HD.out _ (HL1.out.below (And.left (by assumption) : Below w1.heap.size w1 _))).mono ?_; rintro e w2 ⟨rfl, hb2⟩))
  all_goals (go_wp2; go_ret2; exact ⟨by rw [← HX.out]; rfl, HW.out.trans ((And.left (by assumption) : Below w1.heap.size w1 _).mono (by omega))⟩)
end Go.Proofs.YtcfopkaomknmjaaGreatDoor
/- strings.Cut at one byte, bits.guess and bits.Parse, whatever they are given. -/
namespace Go.Proofs.YtcfopkaomknmjaaGreatDoor
open Go.RowKit

theorem idx_w : ∀ (l : List UInt8), (Lib.indexByte l 119 = -1 ∧ cutL l = l ∧ cutR' l = []) ∨ ∃ o : Nat, Lib.indexByte l 119 = (o : Int) ∧ o < l.length ∧ cutL l = l.take o ∧ cutR' l = l.drop (o + 1)
  | [] => .inl ⟨rfl, rfl, rfl⟩
  | c :: l => by
    by_cases hc : c = 119
    · subst hc
      exact .inr ⟨0, by simp [Lib.indexByte], by simp, by simp [cutL, notW], by simp [cutR', notW]⟩
    · have hn : notW c = true := by simp [notW, hc]
      have hb : (c == 119) = false := by simpa using hc
      rcases idx_w l with ⟨h1, h2, h3⟩ | ⟨o, h1, h2, h3, h4⟩
      · exact .inl ⟨by simp [Lib.indexByte, hb, h1], by unfold cutL at h2 ⊢; rw [List.takeWhile_cons, hn]; simp only [if_true]; rw [h2], by unfold cutR' at h3 ⊢; rw [List.dropWhile_cons, hn]; simpa using h3⟩
      · refine .inr ⟨o + 1, ?_, by simp; omega, ?_, ?_⟩
        · have : ¬ ((o : Int) = -1) := by omega
          simp [Lib.indexByte, hb, h1, this]
        · unfold cutL at h3 ⊢; rw [List.takeWhile_cons, hn]; simp only [if_true]; rw [h3]; rfl
        · unfold cutR' at h4 ⊢; rw [List.dropWhile_cons, hn]; simpa using h4
theorem txt_ext (l : List UInt8) (a b : Nat) : (txt l).extract a b = txt ((l.take b).drop a) := by
  apply ByteArray.ext
  simp [txt, List.extract_eq_take_drop, List.drop_take]
theorem cutIn (l : List UInt8) (hl : l.length ≤ 9223372036854775806) (w : World) :
    Calls Tryz.prog 235 #[.string (txt l), .string ⟨#[119]⟩] w fun e w' => (∃ b, e = .returned (.tuple #[.string (txt (cutL l)), .string (txt (cutR' l)), .bool b])) ∧ Below w.heap.size w w' := by
  have HI := hide (Tryz.stringslite_Index_one (txt l) 119)
  have hsz := txt_size l
  rw [txt_data] at HI
  rcases idx_w l with ⟨h1, h2, h3⟩ | ⟨o, h1, h2, h3, h4⟩
  · rw [h1] at HI
    rw [h2, h3, txt_nil]
    clear h1 h2 h3
    generalize txt l = T at *
    go_enter Tryz.func235, Tryz.ntmps235
    go_wp2_with fail
    refine (HI.out _).mono ?_
    rintro e w1 ⟨rfl, rfl⟩
    go_wp2
    refine bodyPost_ret (v := .tuple #[.string T, .string ⟨#[]⟩, .bool false]) (by simp [results, Tryz.results235, go_sem]) rfl ⟨⟨_, rfl⟩, Below.refl _ _⟩
  · rw [h1] at HI
    have HE1 : Hid ((txt l).extract 0 o = txt (cutL l)) := by unfold Hid; rw [txt_ext, h3]; simp
    have HE2 : Hid ((txt l).extract (o + 1) (txt l).size = txt (cutR' l)) := by unfold Hid; rw [txt_ext, h4, txt_size, List.take_of_length_le (Nat.le_refl _)]
    clear h1 h3 h4
    generalize txt (cutL l) = A at *
    generalize txt (cutR' l) = B at *
    have ho : o < (txt l).size := by omega
    generalize txt l = T at *
    have hT : T.size ≤ 9223372036854775806 := by omega
    clear hsz h2 hl
    go_enter Tryz.func235, Tryz.ntmps235
    go_wp2_with fail
    refine (HI.out _).mono ?_
    rintro e w1 ⟨rfl, rfl⟩
    go_wp2
    go_region
    go_wp2
    refine bodyPost_ret (v := .tuple #[.string (T.extract 0 o), .string (T.extract (o + 1) T.size), .bool true]) (by simp [results, Tryz.results235, go_sem]) rfl ⟨⟨true, by rw [HE1.out, HE2.out]⟩, ?_⟩
    exact (Below.refl _ _).drew
theorem cutS_any (l : List UInt8) (hl : l.length ≤ 9223372036854775806) (w : World) :
    Calls Tryz.prog 217 #[.string (txt l), .string ⟨#[119]⟩] w fun e w' => (∃ b, e = .returned (.tuple #[.string (txt (cutL l)), .string (txt (cutR' l)), .bool b])) ∧ Below w.heap.size w w' := by
  have HI := hide (cutIn l hl)
  generalize txt (cutL l) = A at *
  generalize txt (cutR' l) = B at *
  generalize txt l = T at *
  clear hl
  go_enter Tryz.func217, Tryz.ntmps217
  go_wp2_with fail
  refine (HI.out _).mono ?_
  rintro e w1 ⟨⟨b, rfl⟩, hb⟩
  have HB := hide hb
  clear hb
  go_wp2
  refine bodyPost_ret (v := .tuple #[.string A, .string B, .bool b]) (by simp [results, Tryz.results217, go_sem]) rfl ⟨⟨_, rfl⟩, HB.out⟩
theorem cut_len (l : List UInt8) : (cutL l).length ≤ l.length ∧ (cutR' l).length ≤ l.length := by
  rcases idx_w l with ⟨_, h2, h3⟩ | ⟨o, _, _, h3, h4⟩
  · rw [h2, h3]; simp
  · rw [h3, h4]; simp; omega
theorem wh_lt (b : Nat) (l : List UInt8) : wh b l < 18446744073709551616 := by
  have h : ∀ (l : List UInt8) (acc n : Nat), acc ≤ 18446744073709551615 → pu b 18446744073709551615 acc l = .ok n → n ≤ 18446744073709551615 := by
    intro l
    induction l with
    | nil => intro acc n ha h; simp [pu] at h; omega
    | cons c l ih =>
      intro acc n ha h
      simp only [pu] at h
      split at h
      · cases h
      · split at h
        · cases h
        · exact ih _ _ (by omega) h
  unfold wh
  split
  · omega
  · split
    · have := h _ 0 _ (by omega) (by assumption); omega
    · omega
theorem gs_bd (l : List UInt8) : gsW l < 18446744073709551616 ∧ gsH l < 18446744073709551616 ∧ gsL l < 18446744073709551616 := ⟨wh_lt _ _, wh_lt _ _, wh_lt _ _⟩
def gsN (l : List UInt8) : Int := IntKind.i64.wrap (gsW l : Int)
/- A struct of three cells that may be written. -/
def Sh3 (b : Nat) (W : World) : Prop := ∃ cs : Array Value, W.heap[b]? = some (.cells cs 35 (0, 0)) ∧ cs.size = 3
def cv (W : World) (b i : Nat) : Value := (W.cell? ⟨b, i, none⟩).getD undef
theorem Sh3.cell {b i : Nat} {W : World} (h : Sh3 b W) (hi : i < 3) : W.cell? ⟨b, i, none⟩ = some (cv W b i) ∧ W.frozen? ⟨b, i, none⟩ = false := by
  obtain ⟨cs, h1, h2⟩ := h
  have : W.cell? ⟨b, i, none⟩ = some (cs[i]'(by omega)) := by simp [World.cell?, h1, Array.getElem?_eq_getElem (show i < cs.size by omega)]
  refine ⟨by unfold cv; rw [this]; rfl, by simp [World.frozen?, h1]⟩
theorem Sh3.set {b i : Nat} {W : World} (h : Sh3 b W) (v : Value) : Sh3 b (W.setCell ⟨b, i, none⟩ v) := by
  obtain ⟨cs, h1, h2⟩ := h
  refine ⟨cs.setIfInBounds i v, ?_, by simp [h2]⟩
  have hl := (Array.getElem?_eq_some_iff.1 h1).1
  simp [World.setCell, Array.getElem?_modify, h1]
theorem Sh3.below {b : Nat} {W W' : World} (h : Sh3 b W) (hb : Below W.heap.size W W') : Sh3 b W' := by
  obtain ⟨cs, h1, h2⟩ := h
  exact ⟨cs, (hb.block _ (Array.getElem?_eq_some_iff.1 h1).1).trans h1, h2⟩
theorem Sh3.got {b : Nat} {W : World} (h : Sh3 b W) (x y z : Value) : (((W.setCell ⟨b, 0, none⟩ x).setCell ⟨b, 1, none⟩ y).setCell ⟨b, 2, none⟩ z).heap[b]? = some (.cells #[x, y, z] 35 (0, 0)) := by
  obtain ⟨cs, h1, h2⟩ := h
  have hl := (Array.getElem?_eq_some_iff.1 h1).1
  obtain ⟨l⟩ := cs
  match l, h2 with
  | [a, b', c], _ => simp [World.setCell, Array.getElem?_modify, h1]
theorem cells_of3 {b : Nat} {W : World} {x y z : Value} (h : W.heap[b]? = some (.cells #[x, y, z] 35 (0, 0))) : W.cell? ⟨b, 0, none⟩ = some x ∧ W.cell? ⟨b, 1, none⟩ = some y ∧ W.cell? ⟨b, 2, none⟩ = some z ∧ W.frozen? ⟨b, 0, none⟩ = false ∧ W.frozen? ⟨b, 1, none⟩ = false ∧ W.frozen? ⟨b, 2, none⟩ = false := by
  refine ⟨?_, ?_, ?_, ?_, ?_, ?_⟩ <;> simp [World.cell?, World.frozen?, h]
def S3 (b : Nat) (w W : World) : Prop := Below w.heap.size w W ∧ Sh3 b W ∧ W.cell? ⟨b, 0, none⟩ = some (cv W b 0) ∧ W.cell? ⟨b, 1, none⟩ = some (cv W b 1) ∧ W.cell? ⟨b, 2, none⟩ = some (cv W b 2) ∧ W.frozen? ⟨b, 0, none⟩ = false ∧ W.frozen? ⟨b, 1, none⟩ = false ∧ W.frozen? ⟨b, 2, none⟩ = false
theorem S3.mk {b : Nat} {w W : World} (h : Below w.heap.size w W) (hs : Sh3 b W) : S3 b w W :=
  ⟨h, hs, (hs.cell (by omega)).1, (hs.cell (by omega)).1, (hs.cell (by omega)).1, (hs.cell (by omega)).2, (hs.cell (by omega)).2, (hs.cell (by omega)).2⟩
theorem S3.call {b : Nat} {w W W' : World} (h : Below w.heap.size w W) (hs : Sh3 b W) (hb : Below W.heap.size W W') : S3 b w W' := S3.mk (h.trans (hb.mono h.size)) (hs.below hb)
theorem S3.drew {b : Nat} {w W : World} (h : Below w.heap.size w W) (hs : Sh3 b W) : S3 b w W.drew := S3.mk h.drew (by obtain ⟨cs, h1, h2⟩ := hs; exact ⟨cs, h1, h2⟩)
theorem S3.store {w W : World} (h : Below w.heap.size w W) (hs : Sh3 w.heap.size W) (x y z : Value) : S3 w.heap.size w (((W.setCell ⟨w.heap.size, 0, none⟩ x).setCell ⟨w.heap.size, 1, none⟩ y).setCell ⟨w.heap.size, 2, none⟩ z) :=
  S3.mk (((h.setCell (Nat.le_refl _) x).setCell (Nat.le_refl _) y).setCell (Nat.le_refl _) z) (((hs.set x).set y).set z)
def WOk (x : ByteArray) (b : Int) : Prop := (b = 10 ∨ b = 16) ∧ x.size ≤ 281474976710656
def whI (b : Int) (x : ByteArray) : Int := ((wh b.toNat x.data.toList : Nat) : Int)
theorem whole_all (x : ByteArray) (b : Int) (h : WOk x b) (w : World) (hL : Ld w) :
    Calls Tryz.prog 218 #[.string x, .int .i64 b] w fun e w' => e = .returned (.int .u64 (whI b x)) ∧ Below w.heap.size w w' := by
  obtain ⟨h1, h2⟩ := h
  rw [txt_of x] at h2 ⊢
  rw [txt_size] at h2
  rcases h1 with rfl | rfl
  · have := whole10 x.data.toList h2 w hL
    simpa only [whI, txt_data, show Int.toNat 10 = 10 from rfl] using this
  · have := whole16 x.data.toList h2 w hL
    simpa only [whI, txt_data, show Int.toNat 16 = 16 from rfl] using this
set_option maxHeartbeats 4000000 in
set_option maxRecDepth 100000 in
theorem guess_any (l : List UInt8) (hl : l.length ≤ 281474976710656) (w : World) (hL : Ld w) :
    Calls Tryz.prog 180 #[.string (txt l)] w fun e w' => e = .returned (.agg #[.int .i64 (gsN l), .int .u64 (gsH l : Nat), .int .u64 (gsL l : Nat)]) ∧ Below w.heap.size w w' := by
  have HC := hide (cutS_any l (by omega))
  have hcl := cut_len l
  have HW3 := hide whole_all
  have oU : WOk (txt (cutL l)) 10 := ⟨.inl rfl, by rw [txt_size]; omega⟩
  have o1 : WOk (txt ((cutR' l).take ((cutR' l).length - 16))) 16 := ⟨.inr rfl, by rw [txt_size, List.length_take]; omega⟩
  have o2 : WOk (txt ((cutR' l).drop ((cutR' l).length - 16))) 16 := ⟨.inr rfl, by rw [txt_size, List.length_drop]; omega⟩
  have hw : IntKind.i64.wrap (whI 10 (txt (cutL l))) = gsN l := by unfold whI gsN gsW; rw [txt_data]; rfl
  have HV1 : Hid (whI 16 (txt ((cutR' l).take ((cutR' l).length - 16))) = ((gsH l : Nat) : Int)) := by unfold Hid whI gsH; rw [txt_data]; rfl
  have HV2 : Hid (whI 16 (txt ((cutR' l).drop ((cutR' l).length - 16))) = ((gsL l : Nat) : Int)) := by unfold Hid whI gsL; rw [txt_data]; rfl
  generalize (gsH l : Int) = h1 at *
  generalize (gsL l : Int) = l1 at *
  generalize gsN l = n1 at *
  have hV := txt_size (cutR' l)
  have HE1 : Hid ((txt (cutR' l)).extract 0 ((cutR' l).length - 16) = txt ((cutR' l).take ((cutR' l).length - 16))) := by unfold Hid; rw [txt_ext]; simp
  have HE2 : Hid ((txt (cutR' l)).extract ((cutR' l).length - 16) (txt (cutR' l)).size = txt ((cutR' l).drop ((cutR' l).length - 16))) := by unfold Hid; rw [txt_ext, txt_size, List.take_of_length_le (Nat.le_refl _)]
  have hq : (cutR' l).length ≤ 281474976710656 := by omega
  generalize txt ((cutR' l).take ((cutR' l).length - 16)) = P1 at *
  generalize txt ((cutR' l).drop ((cutR' l).length - 16)) = P2 at *
  generalize (cutR' l).length = q at *
  generalize txt (cutR' l) = V at *
  generalize txt (cutL l) = U at *
  generalize txt l = T at *
  have HL := hide hL
  obtain ⟨k, hk⟩ : ∃ k, k = q - 16 := ⟨_, rfl⟩
  rw [← hk] at HE1 HE2
  have hmax : max ((q : Int) - 16) 0 = (k : Int) := by omega
  have hkV : k ≤ V.size := by omega
  have hq63 : V.size ≤ 281474976710656 := by omega
  clear hL hl hcl hk
  subst hV
  go_enter Tryz.func180, Tryz.ntmps180
  go_wp2_with fail
  refine (HC.out _).mono ?_
  rintro e w1 ⟨⟨b, rfl⟩, hb⟩
  have hz : w.heap.size < w1.heap.size := by have := hb.size; simp at this; omega
  have HW : Hid (Below w.heap.size w w1) := ((Below.refl _ _).alloc (Nat.le_refl _) _).trans (hb.mono (by simp))
  have hblk : w1.heap[w.heap.size]? = some (.cells #[.int .i64 0, .int .u64 0, .int .u64 0] 35 (0, 0)) := (hb.block _ (by simp)).trans (heap_alloc_new w _)
  have HL1 := hide (HL.out.below HW.out)
  clear hb
  have HSh : Sh3 w.heap.size w1 := ⟨_, hblk, rfl⟩
  have HS := hide (S3.drew HW.out HSh)
  have e1 := HE1.out
  have e2 := HE2.out
  have hkI0 : (0 : Int) ≤ (k : Int) := by omega
  have hkI1 : (k : Int) ≤ (V.size : Int) := by omega
  clear hblk hq HSh
  go_wp2
  go_region_held3 (fun w' => Below w.heap.size w w' ∧ Sh3 w.heap.size w' ∧ w'.cell? ⟨w.heap.size, 0, none⟩ = some (cv w' w.heap.size 0) ∧ w'.cell? ⟨w.heap.size, 1, none⟩ = some (cv w' w.heap.size 1) ∧ w'.cell? ⟨w.heap.size, 2, none⟩ = some (cv w' w.heap.size 2) ∧ w'.frozen? ⟨w.heap.size, 0, none⟩ = false ∧ w'.frozen? ⟨w.heap.size, 1, none⟩ = false ∧ w'.frozen? ⟨w.heap.size, 2, none⟩ = false)
    (first | exact S3.store (And.left (by assumption)) (And.left (And.right (by assumption))) _ _ _ | exact S3.call (And.left (by assumption)) (And.left (And.right (by assumption))) (by assumption) | exact HS.out)
    (first
      | (go_at_call 218; refine (HW3.out _ _ (by assumption) _ (HL.out.below (And.left (by assumption) : Below w.heap.size w _))).mono ?_; rintro e w' ⟨rfl, hb1⟩))
  rename_i hHeld
  have hg := Sh3.got (((HS.out.2.1.below (by assumption)).below (by assumption)).below (by assumption)) (.int .i64 n1) (.int .u64 (whI 16 P1)) (.int .u64 (whI 16 P2))
  have HF := hide hHeld.1
  clear hHeld
  generalize ((World.setCell _ ⟨w.heap.size, 0, none⟩ (.int .i64 n1)).setCell ⟨w.heap.size, 1, none⟩ (.int .u64 (whI 16 P1))).setCell ⟨w.heap.size, 2, none⟩ (.int .u64 (whI 16 P2)) = WF at *
  obtain ⟨g0, g1, g2, _, _, _⟩ := cells_of3 hg
  clear hg
  rw [HV1.out] at g1
  rw [HV2.out] at g2
  go_wp2
  refine bodyPost_ret (v := .agg #[.int .i64 n1, .int .u64 h1, .int .u64 l1]) (by simp [results, Tryz.results180, go_sem, g0, g1, g2]) rfl ⟨rfl, HF.out⟩
end Go.Proofs.YtcfopkaomknmjaaGreatDoor
/- strconv.FormatUint at base 10. -/
namespace Go.Proofs.YtcfopkaomknmjaaGreatDoor
open Go.RowKit Go.Sort

abbrev u8V : UInt8 → Value := fun b => Value.int .u8 (b.toNat : Int)
theorem holds_at0 (w : World) (nd : Nat) (hs : nd ≤ 24) : Holds u8V (w.alloc (.cells Lib.zeros24 205)) w.heap.size 0 (Array.replicate nd (0 : UInt8)) := fun j hj => by
  have hj' : j < nd := by simpa using hj
  refine ⟨?_, World.frozen?_alloc_new _ _ _ _⟩
  rw [World.cell?_alloc_new, Lib.zeros24_at _ (by omega), getElem!_pos _ j hj]
  simp
theorem bel_put (w : World) (o : Obj) (dk : Array UInt8) (k : Nat) : Below w.heap.size w ((putRow u8V (w.alloc o) w.heap.size 0 dk).drewN k) := by
  obtain ⟨os, _, e⟩ := putRow_grow_new u8V w #[o] w.heap.size 0 dk (Nat.le_refl _)
  rw [alloc_eq_grow, e]
  exact ⟨rfl, rfl, rfl, by show w.heap.size ≤ (w.heap ++ os).size; rw [Array.size_append]; omega, fun j hj => by show (w.heap ++ os)[j]? = w.heap[j]?; exact Array.getElem?_append_left hj⟩
set_option maxRecDepth 100000 in
theorem fmt10_in (u : Nat) (hu : u < 18446744073709551616) (w : World) (hL : Ld w) :
    Calls Tryz.prog 137 #[.int .u64 (u : Int), .int .i64 10] w fun e w' => e = .returned (.string (txt (Lib.decDigits u))) ∧ Below w.heap.size w w' := by
  by_cases hs : u < 100
  · have HS := hide (fun W => Tryz.internal_strconv_small u hs W)
    have hc : IntKind.i64.wrap (u : Int) = (u : Int) := by rw [IntKind.wrap_i64]; omega
    have hlt : (u : Int) < 100 := by omega
    clear hL
    go_enter Tryz.func137, Tryz.ntmps137
    go_wp2_with fail
    refine (HS.out _).mono ?_
    rintro e w1 ⟨rfl, rfl⟩
    go_wp2
    go_ret
    exact ⟨rfl, Below.refl _ _⟩
  · have hu1 : 1 ≤ u := by omega
    have hnd20 : Lib.nDigits u ≤ 20 := by have := Lib.numDigits_eq u hu1 hu; split at this <;> omega
    have HT : Hid (∀ o, Calls Tryz.prog 182 #[.int .u64 (u : Int)] (w.alloc o) fun e w' => e = .returned (.int .i64 (Lib.nDigits u : Int)) ∧ w' = w.alloc o) := fun o => Tryz.internal_strconv_numDigits u hu1 hu _ (Lib.tabIs_alloc hL.pw _)
    have hal : Tryz.prog.arrayLen 205 = 24 := by kernel_rfl
    have hsl : ∀ W, (Instr.sliceAt 205 (.pointer (some ⟨w.heap.size, 0, none⟩)) none (some (.int .i64 (Lib.nDigits u : Int))) none).run Tryz.prog W = .ok (.slice (some ⟨w.heap.size, 0, none⟩) (Lib.nDigits u) 24) W := fun W => by
      rw [run_sliceAt_array_h W 205 ⟨w.heap.size, 0, none⟩ (by kernel_rfl) .i64 (Lib.nDigits u : Int) (by omega) (by rw [hal]; omega)]
      go_simp
    have hH0 := holds_at0 w (Lib.nDigits u) (by omega)
    have hfmt := Tryz.internal_strconv_formatBase10 w.heap.size 0 24 u (Array.replicate (Lib.nDigits u) 0) (w.alloc (.cells Lib.zeros24 205)) hH0 (by rw [Array.size_replicate]; exact Lib.lt_pow_nDigits u) hu (by rw [Array.size_replicate]; omega)
    rw [Array.size_replicate] at hfmt
    have HF := hide hfmt
    have HH0 := hide hH0
    have hge : ¬ ((u : Int) < 100) := by omega
    clear hH0 hal hfmt hL
    go_enter Tryz.func137, Tryz.ntmps137
    go_wp2_with fail
    refine (HT.out _).mono ?_
    rintro e w1 ⟨rfl, rfl⟩
    go_wp2_with fail
    refine HF.out.mono ?_
    rintro e w2 ⟨rfl, k, v', dk, rfl, hF⟩
    have hcv : (convert 174 9 (.slice (some ⟨w.heap.size, 0, none⟩) (Lib.nDigits u) 24)).run Tryz.prog ((putRow u8V (w.alloc (.cells Lib.zeros24 205)) w.heap.size 0 dk).drewN k) = .ok (.string ⟨(Lib.decDigits u).toArray⟩) ((putRow u8V (w.alloc (.cells Lib.zeros24 205)) w.heap.size 0 dk).drewN k) := by
      have h := run_convert_bytes_back (P := Tryz.prog) ((putRow u8V (w.alloc (.cells Lib.zeros24 205)) w.heap.size 0 dk).drewN k) 174 9 5 ⟨w.heap.size, 0, none⟩ 24 (Lib.decDigits u) Tryz.underlying174 Tryz.underlying5 Tryz.underlying9 (fun j hj => by
        rw [Lib.row_is_numeral hF j hj, Lib.add_plain, World.cell?_drewN]
        exact cell?_putRow u8V _ w.heap.size 0 _ dk HH0.out (by rw [hF.size, Array.size_replicate]) j (by rw [hF.size]; rw [Lib.decDigits_length] at hj; exact hj))
      rw [Lib.decDigits_length] at h
      exact h
    have HB := hide (bel_put w (.cells Lib.zeros24 205) dk k)
    go_wp2
    go_ret
    exact ⟨rfl, HB.out⟩
theorem fmt10 (u : Nat) (hu : u < 18446744073709551616) (w : World) (hL : Ld w) :
    Calls Tryz.prog 88 #[.int .u64 (u : Int), .int .i64 10] w fun e w' => e = .returned (.string (txt (Lib.decDigits u))) ∧ Below w.heap.size w w' := by
  have HF := hide (fmt10_in u hu w hL)
  clear hL hu
  generalize txt (Lib.decDigits u) = T at *
  go_enter Tryz.func88, Tryz.ntmps88
  go_wp2_with fail
  refine HF.out.mono ?_
  rintro e w1 ⟨rfl, hb⟩
  have HB := hide hb
  clear hb
  go_wp2
  go_ret
  exact ⟨rfl, HB.out⟩
end Go.Proofs.YtcfopkaomknmjaaGreatDoor
/- bits.Parse, whatever it is given. -/
namespace Go.Proofs.YtcfopkaomknmjaaGreatDoor
open Go.RowKit

def gsV (l : List UInt8) : Nat := gsH l * 18446744073709551616 + gsL l
theorem gsV_top (l : List UInt8) : gsV l < top := by
  have := gs_bd l
  unfold gsV top; omega
theorem gsV_w (l : List UInt8) : ((gsH l : Nat) : Int) = wHi (gsV l) ∧ ((gsL l : Nat) : Int) = wLo (gsV l) := by
  have := gs_bd l
  unfold gsV wHi wLo; omega
/- what a text is read as. -/
def prs (l : List UInt8) : Option (Nat × Nat) := if okN (gsN l) (gsV l) = true ∧ tx (gsN l).toNat (gsV l) = l then some ((gsN l).toNat, gsV l) else none
theorem okN_bd {n : Int} {v : Nat} (h : okN n v = true) : 1 ≤ n ∧ n ≤ 128 ∧ v < 2 ^ n.toNat := by
  unfold okN mayBe at h
  simp at h
  exact ⟨by omega, by omega, h.2⟩
theorem prs_some {l : List UInt8} {n v : Nat} (h : prs l = some (n, v)) : okN n v = true ∧ tx n v = l := by
  unfold prs at h
  split at h
  · rename_i hh
    obtain ⟨h1, h2⟩ := hh
    have hb := okN_bd h1
    simp only [Option.some.injEq, Prod.mk.injEq] at h
    obtain ⟨rfl, rfl⟩ := h
    exact ⟨by rw [show (((gsN l).toNat : Nat) : Int) = gsN l by omega]; exact h1, h2⟩
  · cases h
theorem okN_ltop {n : Nat} {v : Nat} (h : okN n v = true) : v < top := by
  have hb := okN_bd h
  rw [Int.toNat_natCast] at hb
  have : (2 : Nat) ^ n ≤ 2 ^ 128 := Nat.pow_le_pow_right (by decide) (by omega)
  rw [top_eq]
  omega
theorem prs_tx {n v : Nat} (h : okN n v = true) : prs (tx n v) = some (n, v) := by
  have hb := okN_bd h
  have ht := okN_ltop h
  have hg := gs_tx n v (by omega) (by unfold top at ht; exact ht)
  have hN : gsN (tx n v) = (n : Int) := by unfold gsN; rw [hg.1, IntKind.wrap_i64]; omega
  have hV : gsV (tx n v) = v := by unfold gsV; rw [hg.2.1, hg.2.2]; omega
  unfold prs
  rw [hN, hV, Int.toNat_natCast, if_pos ⟨h, rfl⟩]
def prsV : Option (Nat × Nat) → Value
  | some (n, v) => .tuple #[.agg #[.int .i64 (n : Int), .int .u64 (wHi v), .int .u64 (wLo v)], .int .i64 0]
  | none => .tuple #[.agg #[.int .i64 0, .int .u64 0, .int .u64 0], .int .i64 8]
theorem txt_inj {a b : List UInt8} (h : txt a = txt b) : a = b := by
  have := congrArg (fun x => x.data.toList) h
  simpa only [txt_data] using this
theorem txt_ne {a b : List UInt8} (h : ¬ a = b) : ((txt a).toList == (txt b).toList) = false := by
  rw [Lib.toList_data, Lib.toList_data, txt_data, txt_data]
  simpa using h
theorem hao (w : World) (o : Obj) (k : Nat) (h : k < w.heap.size) : (w.alloc o).heap[k]? = w.heap[k]? := ((Below.refl _ w).alloc (Nat.le_refl _) o).block k h
set_option maxRecDepth 100000 in
theorem parseW_ok (T R : ByteArray) (n h1 l1 : Int) (w : World) (hL : Ld w) (hR : R = T)
    (HG : Hid (∀ W, Ld W → Calls Tryz.prog 180 #[.string T] W fun e w' => e = .returned (.agg #[.int .i64 n, .int .u64 h1, .int .u64 l1]) ∧ Below W.heap.size W w'))
    (HT : Hid (∀ W, Ld W → Calls Tryz.prog 23 #[.agg #[.int .i64 n, .int .u64 h1, .int .u64 l1]] W fun e w' => e = .returned (.tuple #[.string R, .int .i64 0]) ∧ Below W.heap.size W w')) :
    Calls Tryz.prog 134 #[.string T] w fun e w' => e = .returned (.tuple #[.agg #[.int .i64 n, .int .u64 h1, .int .u64 l1], .int .i64 0]) ∧ Below w.heap.size w w' := by
  have HL := hide hL
  clear hL
  go_enter Tryz.func134, Tryz.ntmps134
  go_wp2_with fail
  refine (HG.out _ (HL.out.below ((Below.refl _ _).alloc (Nat.le_refl _) _))).mono ?_
  rintro e w1 ⟨rfl, hb⟩
  have hz : w.heap.size < w1.heap.size := by have := hb.size; simp at this; omega
  have HW : Hid (Below w.heap.size w w1) := ((Below.refl _ _).alloc (Nat.le_refl _) _).trans (hb.mono (by simp))
  have hblk : w1.heap[w.heap.size]? = some (.cells #[.int .i64 0, .int .u64 0, .int .u64 0] 35 (0, 0)) := (hb.block _ (by simp)).trans (heap_alloc_new w _)
  clear hb
  go_wp2_with fail
  refine (HT.out _ (HL.out.below (HW.out.alloc (by omega) _))).mono ?_
  rintro e w2 ⟨rfl, hb⟩
  have h2a := cells_of3 (((hb.block w.heap.size (by simp; omega)).trans (hao w1 _ _ hz)).trans hblk)
  have h2b := cells_of3 ((hb.block w1.heap.size (by simp)).trans (heap_alloc_new w1 _))
  have HW2 : Hid (Below w.heap.size w w2) := (HW.out.alloc (by omega) _).trans (hb.mono (by simp; omega))
  have hsh : Sh3 w.heap.size w2 := ⟨_, ((hb.block w.heap.size (by simp; omega)).trans (hao w1 _ _ hz)).trans hblk, rfl⟩
  obtain ⟨a0, a1, a2, f0, f1, f2⟩ := h2a
  obtain ⟨b0, b1, b2, g0, g1, g2⟩ := h2b
  clear hb hblk
  have HSh := hide hsh
  clear hsh
  have hne : ¬ (w1.heap.size = w.heap.size) := by omega
  have hne' : ¬ (w.heap.size = w1.heap.size) := by omega
  go_wp2
  have hg := cells_of3 (HSh.out.got (.int .i64 n) (.int .u64 h1) (.int .u64 l1))
  have HB := hide (((HW2.out.setCell (p := ⟨w.heap.size, 0, none⟩) (Nat.le_refl _) (.int .i64 n)).setCell (p := ⟨w.heap.size, 1, none⟩) (Nat.le_refl _) (.int .u64 h1)).setCell (p := ⟨w.heap.size, 2, none⟩) (Nat.le_refl _) (.int .u64 l1))
  obtain ⟨q0, q1, q2, _, _, _⟩ := hg
  refine bodyPost_ret (v := .tuple #[.agg #[.int .i64 n, .int .u64 h1, .int .u64 l1], .int .i64 0]) (by simp [results, Tryz.results134, go_sem, q0, q1, q2]) rfl ⟨rfl, HB.out⟩
set_option maxRecDepth 100000 in
theorem parseW_ne (T R : ByteArray) (n h1 l1 : Int) (w : World) (hL : Ld w) (hR : (R.toList == T.toList) = false)
    (HG : Hid (∀ W, Ld W → Calls Tryz.prog 180 #[.string T] W fun e w' => e = .returned (.agg #[.int .i64 n, .int .u64 h1, .int .u64 l1]) ∧ Below W.heap.size W w'))
    (HT : Hid (∀ W, Ld W → Calls Tryz.prog 23 #[.agg #[.int .i64 n, .int .u64 h1, .int .u64 l1]] W fun e w' => e = .returned (.tuple #[.string R, .int .i64 0]) ∧ Below W.heap.size W w')) :
    Calls Tryz.prog 134 #[.string T] w fun e w' => e = .returned (.tuple #[.agg #[.int .i64 0, .int .u64 0, .int .u64 0], .int .i64 8]) ∧ Below w.heap.size w w' := by
  have HL := hide hL
  clear hL
  go_enter Tryz.func134, Tryz.ntmps134
  go_wp2_with fail
  refine (HG.out _ (HL.out.below ((Below.refl _ _).alloc (Nat.le_refl _) _))).mono ?_
  rintro e w1 ⟨rfl, hb⟩
  have hz : w.heap.size < w1.heap.size := by have := hb.size; simp at this; omega
  have HW : Hid (Below w.heap.size w w1) := ((Below.refl _ _).alloc (Nat.le_refl _) _).trans (hb.mono (by simp))
  have hblk : w1.heap[w.heap.size]? = some (.cells #[.int .i64 0, .int .u64 0, .int .u64 0] 35 (0, 0)) := (hb.block _ (by simp)).trans (heap_alloc_new w _)
  clear hb
  go_wp2_with fail
  refine (HT.out _ (HL.out.below (HW.out.alloc (by omega) _))).mono ?_
  rintro e w2 ⟨rfl, hb⟩
  have h2a := cells_of3 (((hb.block w.heap.size (by simp; omega)).trans (hao w1 _ _ hz)).trans hblk)
  have h2b := cells_of3 ((hb.block w1.heap.size (by simp)).trans (heap_alloc_new w1 _))
  have HW2 : Hid (Below w.heap.size w w2) := (HW.out.alloc (by omega) _).trans (hb.mono (by simp; omega))
  have hsh : Sh3 w.heap.size w2 := ⟨_, ((hb.block w.heap.size (by simp; omega)).trans (hao w1 _ _ hz)).trans hblk, rfl⟩
  obtain ⟨a0, a1, a2, f0, f1, f2⟩ := h2a
  obtain ⟨b0, b1, b2, g0, g1, g2⟩ := h2b
  clear hb hblk
  have HSh := hide hsh
  clear hsh
  have hne : ¬ (w1.heap.size = w.heap.size) := by omega
  have hne' : ¬ (w.heap.size = w1.heap.size) := by omega
  go_wp2
  have hg := cells_of3 (HSh.out.got (.int .i64 0) (.int .u64 0) (.int .u64 0))
  have HB := hide (((HW2.out.setCell (p := ⟨w.heap.size, 0, none⟩) (Nat.le_refl _) (.int .i64 0)).setCell (p := ⟨w.heap.size, 1, none⟩) (Nat.le_refl _) (.int .u64 0)).setCell (p := ⟨w.heap.size, 2, none⟩) (Nat.le_refl _) (.int .u64 0))
  obtain ⟨q0, q1, q2, _, _, _⟩ := hg
  refine bodyPost_ret (v := .tuple #[.agg #[.int .i64 0, .int .u64 0, .int .u64 0], .int .i64 8]) (by simp [results, Tryz.results134, go_sem, q0, q1, q2]) rfl ⟨rfl, HB.out⟩
set_option maxRecDepth 100000 in
theorem parseW_no (T R : ByteArray) (n h1 l1 : Int) (w : World) (hL : Ld w)
    (HG : Hid (∀ W, Ld W → Calls Tryz.prog 180 #[.string T] W fun e w' => e = .returned (.agg #[.int .i64 n, .int .u64 h1, .int .u64 l1]) ∧ Below W.heap.size W w'))
    (HT : Hid (∀ W, Ld W → Calls Tryz.prog 23 #[.agg #[.int .i64 n, .int .u64 h1, .int .u64 l1]] W fun e w' => e = .returned (.tuple #[.string R, .int .i64 1]) ∧ Below W.heap.size W w')) :
    Calls Tryz.prog 134 #[.string T] w fun e w' => e = .returned (.tuple #[.agg #[.int .i64 0, .int .u64 0, .int .u64 0], .int .i64 8]) ∧ Below w.heap.size w w' := by
  have HL := hide hL
  clear hL
  go_enter Tryz.func134, Tryz.ntmps134
  go_wp2_with fail
  refine (HG.out _ (HL.out.below ((Below.refl _ _).alloc (Nat.le_refl _) _))).mono ?_
  rintro e w1 ⟨rfl, hb⟩
  have hz : w.heap.size < w1.heap.size := by have := hb.size; simp at this; omega
  have HW : Hid (Below w.heap.size w w1) := ((Below.refl _ _).alloc (Nat.le_refl _) _).trans (hb.mono (by simp))
  have hblk : w1.heap[w.heap.size]? = some (.cells #[.int .i64 0, .int .u64 0, .int .u64 0] 35 (0, 0)) := (hb.block _ (by simp)).trans (heap_alloc_new w _)
  clear hb
  go_wp2_with fail
  refine (HT.out _ (HL.out.below (HW.out.alloc (by omega) _))).mono ?_
  rintro e w2 ⟨rfl, hb⟩
  have h2a := cells_of3 (((hb.block w.heap.size (by simp; omega)).trans (hao w1 _ _ hz)).trans hblk)
  have h2b := cells_of3 ((hb.block w1.heap.size (by simp)).trans (heap_alloc_new w1 _))
  have HW2 : Hid (Below w.heap.size w w2) := (HW.out.alloc (by omega) _).trans (hb.mono (by simp; omega))
  have hsh : Sh3 w.heap.size w2 := ⟨_, ((hb.block w.heap.size (by simp; omega)).trans (hao w1 _ _ hz)).trans hblk, rfl⟩
  obtain ⟨a0, a1, a2, f0, f1, f2⟩ := h2a
  obtain ⟨b0, b1, b2, g0, g1, g2⟩ := h2b
  clear hb hblk
  have HSh := hide hsh
  clear hsh
  have hne : ¬ (w1.heap.size = w.heap.size) := by omega
  have hne' : ¬ (w.heap.size = w1.heap.size) := by omega
  go_wp2
  have hg := cells_of3 (HSh.out.got (.int .i64 0) (.int .u64 0) (.int .u64 0))
  have HB := hide (((HW2.out.setCell (p := ⟨w.heap.size, 0, none⟩) (Nat.le_refl _) (.int .i64 0)).setCell (p := ⟨w.heap.size, 1, none⟩) (Nat.le_refl _) (.int .u64 0)).setCell (p := ⟨w.heap.size, 2, none⟩) (Nat.le_refl _) (.int .u64 0))
  obtain ⟨q0, q1, q2, _, _, _⟩ := hg
  refine bodyPost_ret (v := .tuple #[.agg #[.int .i64 0, .int .u64 0, .int .u64 0], .int .i64 8]) (by simp [results, Tryz.results134, go_sem, q0, q1, q2]) rfl ⟨rfl, HB.out⟩
theorem parse_any (l : List UInt8) (hl : l.length ≤ 281474976710656) (w : World) (hL : Ld w) :
    Calls Tryz.prog 134 #[.string (txt l)] w fun e w' => e = .returned (prsV (prs l)) ∧ Below w.heap.size w w' := by
  have HG : Hid (∀ W, Ld W → _) := fun W h => guess_any l hl W h
  have hw := gsV_w l
  have htop := gsV_top l
  rw [hw.1, hw.2] at HG
  by_cases ho : okN (gsN l) (gsV l) = true
  · have hb := okN_bd ho
    have HT : Hid (∀ W, Ld W → _) := fun W h => text_yes (gsN l) (gsV l) W h htop ho
    by_cases he : tx (gsN l).toNat (gsV l) = l
    · have hp : prs l = some ((gsN l).toNat, gsV l) := by unfold prs; rw [if_pos ⟨ho, he⟩]
      rw [hp]
      simp only [prsV]
      rw [show (((gsN l).toNat : Nat) : Int) = gsN l by omega]
      exact parseW_ok _ _ _ _ _ w hL (by rw [he]) HG HT
    · have hp : prs l = none := by unfold prs; rw [if_neg (fun h => he h.2)]
      rw [hp]
      exact parseW_ne _ _ _ _ _ w hL (txt_ne he) HG HT
  · have hp : prs l = none := by unfold prs; rw [if_neg (fun h => ho h.1)]
    rw [hp]
    exact parseW_no _ (txt []) _ _ _ w hL HG (fun W h => text_no (gsN l) (gsV l) W htop (by simpa using ho))
end Go.Proofs.YtcfopkaomknmjaaGreatDoor
/- strconv.ParseUint's inner walk at base 10, 31 bits. -/
namespace Go.Proofs.YtcfopkaomknmjaaGreatDoor
open Go.RowKit

set_option maxHeartbeats 32000000 in
set_option maxRecDepth 100000 in
theorem pu31_in (t : ByteArray) (hne : t.size ≠ 0) (hmax : t.size ≤ 9223372036854775806) (w : World) :
    Calls Tryz.prog 178 #[.string t, .int .i64 10, .int .i64 31] w fun e w' => e = .returned (puV 2147483647 (pu 10 2147483647 0 t.data.toList)) ∧ Below w.heap.size w w' := by
  have hemp : t.toList.isEmpty = false := by
    rw [← decide_eq_emptyBytes]
    exact decide_eq_false (fun h => hne (by rw [h]; rfl))
  have hcv := Lib.run_convert_string_bytes (P := Tryz.prog) w 9 174 5 t (u := .string) Tryz.underlying9 Tryz.underlying174 Tryz.underlying5
  have hB : ∀ j, j < t.size → (Lib.bytesWorld w 5 t).cell? ⟨w.heap.size, j, none⟩ = some (.int .u8 (t.data.toList.getD j 0).toNat) := fun j hj => Lib.bytesWorld_cell w 5 t j hj
  have HBel : Hid (Below w.heap.size w (Lib.bytesWorld w 5 t)) := ⟨rfl, rfl, rfl, by rw [Lib.bytesWorld_size]; omega, fun k hk => Lib.bytesWorld_at_old w 5 t k hk⟩
  generalize Lib.bytesWorld w 5 t = W1 at hcv hB HBel
  have hLn : t.data.toList.length = t.size := by rw [Lib.size_eq]
  generalize t.data.toList = bs at hB hLn ⊢
  have hmv : IntKind.u64.wrap (IntKind.u64.wrap 2147483648 - 1) = 2147483647 := by rw [IntKind.wrap_u64, IntKind.wrap_u64]; decide
  go_enter Tryz.func178, Tryz.ntmps178
  go_wp2
  go_loop [12, 13, 101] (fun vu vn vi => ∃ (k acc : Nat) (a : Int), vu = .bool false ∧ vn = .int .u64 a ∧ vi = .int .i64 k ∧ k ≤ t.size ∧ Hid (a = (acc : Int) ∧ acc ≤ 2147483647 ∧ pu 10 2147483647 0 bs = pu 10 2147483647 acc (bs.drop k)))
    (fun _ _ vi => t.size - (intOf vi).toNat)
  case atStart => exact ⟨0, 0, 0, rfl, rfl, rfl, by omega, rfl, by omega, rfl⟩
  case round =>
    obtain ⟨k, acc, a, rfl, rfl, rfl, hk, hh⟩ := hrel
    obtain ⟨ha, hacc, hdec⟩ := hh.out
    clear hh
    have a0 : 0 ≤ a := by omega
    have a1 : a ≤ 2147483647 := by omega
    by_cases hkn : k < t.size
    · have hc := hB k hkn
      have hdrop : bs.drop k = bs[k]'(by omega) :: bs.drop (k + 1) := List.drop_eq_getElem_cons (by omega)
      have hget : bs.getD k 0 = bs[k]'(by omega) := by simp [List.getD, List.getElem?_eq_getElem (show k < bs.length by omega)]
      rw [hdrop] at hdec
      rw [hget] at hc
      have hdec' : pu 10 2147483647 0 bs = if 10 ≤ dval (bs[k]'(by omega)).toNat then .error true else if 2147483647 < acc * 10 + dval (bs[k]'(by omega)).toNat then .error false else pu 10 2147483647 (acc * 10 + dval (bs[k]'(by omega)).toNat) (bs.drop (k + 1)) := hdec
      clear hdec hdrop hget hB
      have hc256 : (bs[k]'(by omega)).toNat < 256 := (bs[k]'(by omega)).toNat_lt
      generalize (bs[k]'(by omega)).toNat = c at hc hdec' hc256
      obtain ⟨x, hx, x0, x1, HX⟩ := lower_x c hc256
      have HX' := hide HX
      clear HX
      by_cases hdig : 48 ≤ c ∧ c ≤ 57
      · obtain ⟨hd0, hd1⟩ := hdig
        have hdv : dval c = c - 48 := by unfold dval; rw [if_pos ⟨hd0, hd1⟩]
        rw [hdv, if_neg (show ¬ (10 ≤ c - 48) by omega)] at hdec'
        clear hx x0 x1 HX' hdv
        obtain ⟨d, hd⟩ : ∃ d : Int, d = (c : Int) - 48 := ⟨_, rfl⟩
        by_cases hov : 2147483647 < acc * 10 + (c - 48)
        · rw [if_pos hov] at hdec'
          have HD := hide hdec'
          clear hdec' hd d
          by_cases hcut : (1844674407370955162 : Int) ≤ a
          · exfalso; omega
          · have icut : a < 1844674407370955162 := by omega
            have iov : 2147483647 < a * 10 + ((c : Int) - 48) := by omega
            have hlt : ¬ (a * 10 + ((c : Int) - 48) < a * 10) := by omega
            clear hov hacc ha hcut
            go_wp2
            go_ret2
            exact ⟨by rw [HD.out]; rfl, HBel.out⟩
        · rw [if_neg hov] at hdec'
          have HN : Hid (a * 10 + ((c : Int) - 48) = ((acc * 10 + (c - 48) : Nat) : Int) ∧ acc * 10 + (c - 48) ≤ 2147483647 ∧ pu 10 2147483647 0 bs = pu 10 2147483647 (acc * 10 + (c - 48)) (bs.drop (k + 1))) := ⟨by omega, by omega, hdec'⟩
          have icut : a < 1844674407370955162 := by omega
          have iov : a * 10 + ((c : Int) - 48) ≤ 2147483647 := by omega
          clear hdec' hov hacc ha hd d
          go_wp2
          exact ⟨⟨k + 1, acc * 10 + (c - 48), a * 10 + ((c : Int) - 48), rfl, (by first | rfl | (congr 1; omega)), (by first | rfl | (congr 1; omega)), by omega, HN⟩, by simp [intOf]; omega⟩
      · by_cases hus : c = 95
        · subst hus
          have HX2 : Hid (∀ W, Calls Tryz.prog 211 #[.int .u8 95] W fun e w' => e = .returned (.int .u8 127) ∧ w' = W) := by
            intro W
            have := HX'.out W
            rw [hx] at this
            exact this
          rw [show dval 95 = 255 from rfl, if_pos (by omega)] at hdec'
          have HD := hide hdec'
          clear hdec' hx hacc ha HX'
          go_wp2_with (refine (HX2.out _).mono ?_; rintro e w' ⟨rfl, rfl⟩)
          all_goals go_ret2
          all_goals exact ⟨by rw [HD.out]; rfl, HBel.out⟩
        have hne5 : ¬ ((c : Int) = 95) := by omega
        by_cases hlet : 97 ≤ x ∧ x ≤ 122
        · obtain ⟨l0, l1⟩ := hlet
          have hdv : dval c = (c ||| 32) - 87 := by unfold dval; rw [if_neg hdig, if_pos ⟨by omega, by omega⟩]
          rw [hdv] at hdec'
          rw [if_pos (show 10 ≤ (c ||| 32) - 87 by omega)] at hdec'
          have HD := hide hdec'
          clear hdec' hx hacc ha hdv
          go_wp2_with (refine (HX'.out _).mono ?_; rintro e w' ⟨rfl, rfl⟩)
          all_goals go_ret2
          all_goals exact ⟨by rw [HD.out]; rfl, HBel.out⟩
        · have hdv : dval c = 255 := by unfold dval; rw [if_neg hdig, if_neg (by omega)]
          rw [hdv, if_pos (by omega)] at hdec'
          have HD := hide hdec'
          clear hdec' hx hacc ha hdv
          go_wp2_with (refine (HX'.out _).mono ?_; rintro e w' ⟨rfl, rfl⟩)
          all_goals go_ret2
          all_goals exact ⟨by rw [HD.out]; rfl, HBel.out⟩
    · have hkk : k = t.size := by omega
      subst hkk
      have hF : pu 10 2147483647 acc (bs.drop t.size) = .ok acc := by rw [List.drop_eq_nil_of_le (by omega)]; rfl
      rw [hF] at hdec
      have HD : Hid (pu 10 2147483647 0 bs = .ok acc ∧ a = (acc : Int)) := ⟨hdec, ha⟩
      clear hdec hacc hF a0 a1 ha
      go_wp2
      go_ret2
      exact ⟨by rw [HD.out.1, HD.out.2]; rfl, HBel.out⟩
end Go.Proofs.YtcfopkaomknmjaaGreatDoor
