/- What is laid; strconv.ParseUint and bits.whole, whatever they are given. -/
import Derived.Test.YtbbnjilajkllpaaGreatDoorUSh
import Derived.Test.YtbbnjilajkllpaaGreatDoorUM
import Derived.Test.YtbbnjilajkllpaaGreatDoorUA10
import Derived.Test.YtbbnjilajkllpaaGreatDoorUA16
import Derived.WalkSmall
import Derived.Lib.IfaceEq
namespace Go.Proofs.YtbbnjilajkllpaaGreatDoor
open Go.RowKit

structure Ld (w : World) : Prop where
  db : w.cell? ⟨5, 15, none⟩ = some (.int .u8 4)
  pw : Lib.TabIs Tryz.prog w "internal/strconv.uint64pow10" .u64 Lib.pow10Tab
  es : ∃ te pe, w.cell? ⟨2, 0, none⟩ = some (.iface te pe)
  er : ∃ te pe, w.cell? ⟨3, 0, none⟩ = some (.iface te pe)
theorem gPow : Tryz.prog.globalNamed "internal/strconv.uint64pow10" = some 0 := by kernel_rfl
theorem Ld.below {w w' : World} (h : Ld w) (hb : Below w.heap.size w w') : Ld w' := by
  have hc : ∀ g o v, w.cell? ⟨g, o, none⟩ = some v → w'.cell? ⟨g, o, none⟩ = some v := fun g o v hv => (hb.cell (World.block_lt_of_cell? w _ hv)).trans hv
  refine ⟨hc _ _ _ h.db, ?_, ?_, ?_⟩
  · have hp := h.pw
    unfold Lib.TabIs at hp ⊢
    have hlt : 0 < w.heap.size := by
      rcases Nat.lt_or_ge 0 w.heap.size with h' | h'
      · exact h'
      · have : w.var? Tryz.prog "internal/strconv.uint64pow10" = none := by unfold World.var?; rw [gPow]; simp [Array.getElem?_eq_none h']
        rw [this] at hp; cases hp
    exact var?_below hb gPow hlt hp
  · obtain ⟨a, b, e⟩ := h.es; exact ⟨a, b, hc _ _ _ e⟩
  · obtain ⟨a, b, e⟩ := h.er; exact ⟨a, b, hc _ _ _ e⟩
def txt (l : List UInt8) : ByteArray := ⟨l.toArray⟩
theorem txt_size (l : List UInt8) : (txt l).size = l.length := by simp [txt, ByteArray.size]
theorem txt_data (l : List UInt8) : (txt l).data.toList = l := by simp [txt]
theorem txt_of (s : ByteArray) : s = txt s.data.toList := by cases s; rfl
theorem txt_nil : txt [] = ⟨#[]⟩ := rfl

/- The error's value: anything but none. -/
def Bad (v : Value) : Prop := ∃ t p, v = .iface t p
set_option maxRecDepth 100000 in
theorem parseUint_nil (b k : Nat) (w : World) (_ : b = 10 ∨ b = 16) :
    Calls Tryz.prog 77 #[.string (txt []), .int .i64 b, .int .i64 k] w fun e w' => e = .returned (puV 0 (.error true)) ∧ w' = w := by
  rw [txt_nil]
  go_enter Tryz.func77, Tryz.ntmps77
  go_wp2
  go_ret2
  exact ⟨rfl, rfl⟩
/- strconv.ParseUint, over what the inner one gives. -/
def puE (mx : Nat) : List UInt8 → Nat → PR
  | [], _ => .error true
  | l, b => pu b mx 0 l
theorem pIn (b k mx : Nat) (hin : ∀ (t : ByteArray) (_ : t.size ≠ 0) (_ : t.size ≤ 9223372036854775806) (w : World), Calls Tryz.prog 77 #[.string t, .int .i64 b, .int .i64 k] w fun e w' => e = .returned (puV mx (pu b mx 0 t.data.toList)) ∧ Below w.heap.size w w')
    (hb : b = 10 ∨ b = 16) (l : List UInt8) (hl : l.length ≤ 281474976710656) (w : World) :
    Calls Tryz.prog 77 #[.string (txt l), .int .i64 b, .int .i64 k] w fun e w' => e = .returned (puV mx (puE mx l b)) ∧ Below w.heap.size w w' := by
  match l, hl with
  | [], _ => exact (parseUint_nil b k w hb).mono fun e w' ⟨h1, h2⟩ => ⟨h1, h2 ▸ Below.refl _ _⟩
  | c :: l, hl =>
    have := hin (txt (c :: l)) (by rw [txt_size]; simp) (by rw [txt_size]; omega) w
    rw [txt_data] at this
    exact this
def PuPost (r : PR) (e : Ending) : Prop := (∃ n : Nat, r = .ok n ∧ e = .returned (.tuple #[.int .u64 (n : Int), .nilIface])) ∨ ((∀ n, r ≠ .ok n) ∧ ∃ x v, Bad v ∧ e = .returned (.tuple #[.int .u64 x, v]))
set_option maxRecDepth 100000 in
theorem toErr_syn (fn s : ByteArray) (base bits : Int) (ev : Value) (w : World) (hlim : s.size ≤ 281474976710656) (hv : w.cell? ⟨2, 0, none⟩ = some ev) (hev : ev = .nilIface ∨ ∃ te pe, ev = .iface te pe) :
    Calls Tryz.prog 78 #[.string fn, .string s, .int .i64 base, .int .i64 bits, .iface 105 (.int .i64 2)] w fun e w' => (∃ v, Bad v ∧ e = .returned v) ∧ Below w.heap.size w w' := by
  have HC := hide (Tryz.strconv_syntaxError fn s ev w hlim hv hev)
  have heq : ∀ W, (binOp .eql 72 (.iface 105 (.int .i64 2)) (.iface 105 (.int .i64 2))).run Tryz.prog W = .ok (.bool true) W := fun W => Lib.run_eql_iface_int W 2 2 Tryz.underlying72 (by kernel_rfl) Tryz.underlying105
  clear hv hev
  go_enter Tryz.func78, Tryz.ntmps78
  go_wp2_with (go_at_call 92; refine HC.out.mono ?_)
  rintro e w2 ⟨N, rfl, h1, h2, h3⟩
  have H3 := hide h3
  clear h1 h2 h3
  go_wp2
  go_ret
  exact ⟨⟨_, ⟨_, _, rfl⟩, rfl⟩, H3.out⟩
set_option maxRecDepth 100000 in
theorem parseUint_of (b k mx : Nat) (hin : ∀ (t : ByteArray) (_ : t.size ≠ 0) (_ : t.size ≤ 9223372036854775806) (w : World), Calls Tryz.prog 77 #[.string t, .int .i64 b, .int .i64 k] w fun e w' => e = .returned (puV mx (pu b mx 0 t.data.toList)) ∧ Below w.heap.size w w')
    (hb : b = 10 ∨ b = 16) (l : List UInt8) (hl : l.length ≤ 281474976710656) (w : World) (hL : Ld w) :
    Calls Tryz.prog 60 #[.string (txt l), .int .i64 b, .int .i64 k] w fun e w' => Below w.heap.size w w' ∧ PuPost (puE mx l b) e := by
  have HI := hide (pIn b k mx hin hb l hl w)
  have hsz : (txt l).size ≤ 281474976710656 := by rw [txt_size]; exact hl
  have HS : Hid (∀ W, Ld W → Calls Tryz.prog 78 #[.string ⟨#[80, 97, 114, 115, 101, 85, 105, 110, 116]⟩, .string (txt l), .int .i64 b, .int .i64 k, .iface 105 (.int .i64 2)] W fun e w' => (∃ v, Bad v ∧ e = .returned v) ∧ Below W.heap.size W w') := fun W h => by
    obtain ⟨te, pe, he⟩ := h.es
    exact toErr_syn _ (txt l) b k _ W hsz he (.inr ⟨_, _, rfl⟩)
  have HR : Hid (∀ W, Ld W → Calls Tryz.prog 78 #[.string ⟨#[80, 97, 114, 115, 101, 85, 105, 110, 116]⟩, .string (txt l), .int .i64 b, .int .i64 k, .iface 105 (.int .i64 1)] W fun e w' => (∃ v, Bad v ∧ e = .returned v) ∧ Below W.heap.size W w') := fun W h => by
    obtain ⟨te, pe, he⟩ := h.er
    exact (Tryz.strconv_toError_range _ (txt l) b k _ W hsz he (.inr ⟨_, _, rfl⟩)).mono fun e w' ⟨N, h1, _, _, h4⟩ => ⟨⟨_, ⟨_, _, rfl⟩, h1⟩, h4⟩
  have HL := hide hL
  clear hL hsz hin hb
  generalize (b : Int) = bi at *
  generalize (k : Int) = ki at *
  generalize hr : puE mx l b = r at *
  have HLn := hide hl
  clear hl hr
  generalize txt l = T at *
  match r with
  | .ok n =>
    go_enter Tryz.func60, Tryz.ntmps60
    go_wp2_with fail
    refine HI.out.mono ?_
    rintro e w1 ⟨rfl, hb1⟩
    have HB := hide hb1
    clear hb1
    simp only [puV]
    go_wp2
    go_ret2
    exact ⟨HB.out, .inl ⟨n, rfl, rfl⟩⟩
  | .error true =>
    go_enter Tryz.func60, Tryz.ntmps60
    go_wp2_with fail
    refine HI.out.mono ?_
    rintro e w1 ⟨rfl, hb1⟩
    have HB := hide hb1
    have HL1 := hide (HL.out.below hb1)
    clear hb1
    simp only [puV]
    go_wp2_with fail
    refine (HS.out _ HL1.out).mono ?_
    rintro e w2 ⟨⟨v, ⟨te, pe, rfl⟩, rfl⟩, hb2⟩
    have HB2 := hide hb2
    clear hb2
    go_wp2
    go_ret2
    exact ⟨HB.out.trans (HB2.out.mono HB.out.size), .inr ⟨(fun n h => by cases h), _, _, ⟨_, _, rfl⟩, rfl⟩⟩
  | .error false =>
    go_enter Tryz.func60, Tryz.ntmps60
    go_wp2_with fail
    refine HI.out.mono ?_
    rintro e w1 ⟨rfl, hb1⟩
    have HB := hide hb1
    have HL1 := hide (HL.out.below hb1)
    clear hb1
    simp only [puV]
    generalize (mx : Int) = mi
    go_wp2_with fail
    refine (HR.out _ HL1.out).mono ?_
    rintro e w2 ⟨⟨v, ⟨te, pe, rfl⟩, rfl⟩, hb2⟩
    have HB2 := hide hb2
    clear hb2
    go_wp2
    go_ret2
    exact ⟨HB.out.trans (HB2.out.mono HB.out.size), .inr ⟨(fun n h => by cases h), _, _, ⟨_, _, rfl⟩, rfl⟩⟩
theorem whole_of (b : Nat) (hin : ∀ (t : ByteArray) (_ : t.size ≠ 0) (_ : t.size ≤ 9223372036854775806) (w : World), Calls Tryz.prog 77 #[.string t, .int .i64 b, .int .i64 (64 : Nat)] w fun e w' => e = .returned (puV 18446744073709551615 (pu b 18446744073709551615 0 t.data.toList)) ∧ Below w.heap.size w w')
    (hb : b = 10 ∨ b = 16) (l : List UInt8) (hl : l.length ≤ 281474976710656) (w : World) (hL : Ld w) :
    Calls Tryz.prog 29 #[.string (txt l), .int .i64 b] w fun e w' => e = .returned (.int .u64 ((wh b l : Nat) : Int)) ∧ Below w.heap.size w w' := by
  have HP := hide (parseUint_of b 64 18446744073709551615 hin hb l hl w hL)
  have HY : Hid (∀ n, puE 18446744073709551615 l b = .ok n → ((wh b l : Nat) : Int) = (n : Int)) := fun n h => by
    cases l with
    | nil => cases h
    | cons c l => rw [wh_ok (by simp) h]
  have HN : Hid ((∀ n, puE 18446744073709551615 l b ≠ .ok n) → ((wh b l : Nat) : Int) = 0) := fun h => by
    cases l with
    | nil => rfl
    | cons c l =>
      simp only [wh]
      cases hp : pu b 18446744073709551615 0 (c :: l) with
      | ok n => exact absurd hp (h n)
      | error b => cases b <;> rfl
  clear hin hb hL hl
  generalize ((wh b l : Nat) : Int) = x at *
  generalize (b : Int) = bi at *
  generalize puE 18446744073709551615 l b = r at *
  generalize txt l = T at *
  go_enter Tryz.func29, Tryz.ntmps29
  go_wp2_with fail
  refine HP.out.mono ?_
  rintro e w1 ⟨hb1, h⟩
  have HB := hide hb1
  clear hb1
  rcases h with ⟨n, h1, rfl⟩ | ⟨h1, y, v, ⟨te, pe, rfl⟩, rfl⟩
  · have e := HY.out n h1
    subst e
    clear h1
    go_wp2
    go_ret
    exact ⟨rfl, HB.out⟩
  · have e := HN.out h1
    subst e
    clear h1
    go_wp2
    go_ret
    exact ⟨rfl, HB.out⟩
theorem whole10 (l : List UInt8) (hl : l.length ≤ 281474976710656) (w : World) (hL : Ld w) :
    Calls Tryz.prog 29 #[.string (txt l), .int .i64 10] w fun e w' => e = .returned (.int .u64 ((wh 10 l : Nat) : Int)) ∧ Below w.heap.size w w' := whole_of 10 pu10_in (.inl rfl) l hl w hL
theorem whole16 (l : List UInt8) (hl : l.length ≤ 281474976710656) (w : World) (hL : Ld w) :
    Calls Tryz.prog 29 #[.string (txt l), .int .i64 16] w fun e w' => e = .returned (.int .u64 ((wh 16 l : Nat) : Int)) ∧ Below w.heap.size w w' := whole_of 16 pu16_in (.inr rfl) l hl w hL
end Go.Proofs.YtbbnjilajkllpaaGreatDoor
