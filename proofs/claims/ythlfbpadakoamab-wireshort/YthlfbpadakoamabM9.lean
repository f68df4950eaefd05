/- Pieces of the proof: XM, XLb, XE, XLd, XF, XG, XGb, XGc. -/
import Derived.Test.YthlfbpadakoamabM8
/- package wire: a match, as it is told. -/
namespace Go.Proofs.Ythlfbpadakoamab
open Go.RowKit

theorem agg_of {cs l : List Value} (h : mkAgg cs = .agg l.toArray) : cs = l := by
  unfold mkAgg at h; injection h with h; have := congrArg Array.toList h; simpa using this
def MatchT (m : MatchA) (t : List Nat) : Prop := ∃ a b c, NumT m.v a ∧ NumT m.m b ∧ WholeT m.len c ∧ t = a ++ b ++ c
set_option maxHeartbeats 2000000 in
theorem wmatch_writes : Writes 75 MatchR MatchT := fun B W p v bs t u x h hr hT hl => by
  obtain ⟨⟨b1, b2, b3⟩, ⟨c1, c2, c3⟩, ln⟩ := x
  obtain rfl : u = .agg #[.int .i64 b1, .int .u64 b2, .int .u64 b3, .int .i64 c1, .int .u64 c2, .int .u64 c3, .int .i64 ln] := hr
  obtain ⟨ta, tb, tc, hA, hB, hC, rfl⟩ := hT
  have hp := h.lt
  obtain ⟨O, hO⟩ : ∃ O, O = Obj.cells #[.int .i64 b1, .int .u64 b2, .int .u64 b3, .int .i64 c1, .int .u64 c2, .int .u64 c3, .int .i64 ln] 110 := ⟨_, rfl⟩
  have HS := hide (heap_alloc_new W O)
  have HNE : Hid (v.ownBlock ≠ some W.heap.size) := hide (fun e => by have := h.bod _ e; omega)
  have W1 := hide (h.alloc O)
  have HL := hide hl
  have H1 := hide (number_writes B _ p v bs ta _ ⟨b1, b2, b3⟩ W1.out rfl hA (by simp at hl; omega))
  have M0 : Hid (Wm p W v (W.alloc O) v) := hide (Wm.alloc _)
  rw [hO] at HS W1 H1 M0
  have HB := hide hB; have HC := hide hC
  unfold BitsA.val at H1
  clear h hl hA hB hC hO
  go_enter Try.func75, Try.ntmps75
  go_wp2_with fail
  refine H1.out.mono ?_
  rintro e w1 ⟨v1, rfl, h1, m1⟩
  have hs1 := m1.keep HS.out (by omega) HNE.out
  obtain ⟨a0, a1, a2, a3, a4, a5, a6, af⟩ := cells7 hs1
  have HS1 := hide hs1
  have HNE1 : Hid (v1.ownBlock ≠ some W.heap.size) := hide (m1.far (by simp) HNE.out)
  have M1 := hide (M0.out.trans m1)
  have H2 := hide (number_writes B _ p v1 _ tb _ ⟨c1, c2, c3⟩ h1 rfl HB.out (by have := HL.out; simp at this ⊢; omega))
  unfold BitsA.val at H2
  clear h1 m1 hs1 H1
  go_wp2_with fail
  refine H2.out.mono ?_
  rintro e w2 ⟨v2, rfl, h2, m2⟩
  have hs2 := m2.keep HS1.out (by omega) HNE1.out
  obtain ⟨a0, a1, a2, a3, a4, a5, a6, af⟩ := cells7 hs2
  have M2 := hide (M1.out.trans m2)
  have H3 := hide (whole_writes B _ p v2 _ tc _ ln h2 rfl HC.out (by have := HL.out; simp at this ⊢; omega))
  clear h2 m2 hs2 H2
  go_wp2_with fail
  refine H3.out.mono ?_
  rintro e w3 ⟨v3, rfl, h3, m3⟩
  have W3 := hide h3
  have M3 := hide (M2.out.trans m3)
  clear h3 m3
  go_wp2
  go_end0
  exact ⟨v3, rfl, by have := W3.out; rw [List.append_assoc, List.append_assoc] at this; rw [List.append_assoc]; exact this, M3.out⟩
end Go.Proofs.Ythlfbpadakoamab
/- package wire: a list that is told. -/
namespace Go.Proofs.Ythlfbpadakoamab
open Go.RowKit

set_option maxHeartbeats 2000000 in
theorem list_match {B : Nat} {W : World} {p : Nat} {v : Value} {bs sz t : List Nat} (lv : Value) (l : List _) (h : Wr B W p v bs) (hr : ListR MatchR mkAgg 7 W (· < B) lv l) (hS : ByteT l.length sz) (hT : ManyT MatchT l t) (hl : bs.length + (sz ++ t).length ≤ slack) :
    Calls Try.prog 74 #[.func (Fn.func 44) #[.pointer (some ⟨p, 0, none⟩)] #[], lv, .func (Fn.func 75) #[.pointer (some ⟨p, 0, none⟩)] #[]] W fun e W' => Told B p W v bs (sz ++ t) e W' := by
  obtain ⟨la, lc, rfl⟩ := list_slice hr
  obtain ⟨n, hn⟩ : ∃ n, l.length = n := ⟨_, rfl⟩
  have HZ := hide (byte_sizes B W p v bs sz n h (by rw [← hn]; exact hS) (by simp at hl; omega))
  have HLen : Hid (n < 1000000000000) := hide (by rw [← hn]; exact byteT_lt hS)
  have HR := hide hr; have HT := hide hT; have HL := hide hl
  have HW := hide h
  have HN := hide hn
  rw [hn]
  clear h hr hS hT hl hn
  go_enter Try.func74, Try.ntmps74
  go_wp2_with fail
  refine HZ.out.mono ?_
  rintro e w1 ⟨v1, rfl, h1, m1⟩
  have H1 := hide h1; have M1 := hide m1
  clear h1 m1
  go_wp2
  go_loopw [14] (fun i wr => ∃ (k : Nat) (vk : Value) (told rest : List Nat), k ≤ n ∧ i = .int .i64 k ∧ Lt MatchT B W wr p v vk bs sz t l k told rest) (fun i _ => n - (intOf i).toNat)
  case atStart => exact ⟨0, v1, [], t, Nat.zero_le _, rfl, by rw [List.append_nil]; exact H1.out, M1.out, HT.out, rfl⟩
  case round =>
    obtain ⟨k, vk, told, rest, hk, rfl, hL⟩ := hrel
    have hnn := HLen.out
    have L0 := hide hL
    clear hL
    have hBl : Below B W wr := L0.out.wm.below HW.out HW.out.le
    have HRk := hide (rep_below (ListR.ok match_ok _ _) HR.out hBl)
    clear hBl
    by_cases hlt : k < n
    · have hkl : k < l.length := by rw [HN.out]; exact hlt
      obtain ⟨b, off, cap, cs, he, hX, hcs, hrep, hc⟩ := list_elem HRk.out k hkl
      injection he with he1 he2 he3
      subst he1
      clear he2 he3
      obtain ⟨x, hx⟩ : ∃ x, l[k] = x := ⟨_, rfl⟩
      rw [hx] at hrep
      obtain ⟨ta, tb, hta, htb, hab⟩ := L0.out.item hkl
      rw [hx] at hta
      have HREP0 := hide hrep
      obtain ⟨⟨b1, b2, b3⟩, ⟨c1, c2, c3⟩, ln⟩ := x
      obtain rfl := agg_of (show mkAgg cs = .agg #[.int .i64 b1, .int .u64 b2, .int .u64 b3, .int .i64 c1, .int .u64 c2, .int .u64 c3, .int .i64 ln] from hrep)
      have HREP := HREP0
      clear hrep HREP0
      have HC := hide hc
      have q0 := HC.out 0 (by simp)
      have q1 := HC.out 1 (by simp)
      have q2 := HC.out 2 (by simp)
      have q3 := HC.out 3 (by simp)
      have q4 := HC.out 4 (by simp)
      have q5 := HC.out 5 (by simp)
      have q6 := HC.out 6 (by simp)
      simp only [List.getElem_cons_zero, List.getElem_cons_succ, Nat.add_zero] at q0 q1 q2 q3 q4 q5 q6
      simp only [← Nat.add_assoc] at q0 q1 q2 q3 q4 q5 q6
      have HTA := hide hta; have HTB := hide htb; have HAB := hide hab
      have WA := hide (L0.out.wr.alloc (.cells #[.int .i64 b1, .int .u64 b2, .int .u64 b3, .int .i64 c1, .int .u64 c2, .int .u64 c3, .int .i64 ln] 110))
      have HI := hide (wmatch_writes B _ p vk _ ta _ _ WA.out (rep_below match_ok HREP.out ((Below.refl _ _).alloc L0.out.wr.le _)) hta (by have h1 := HL.out; have h2 := L0.out.all; rw [h2, hab] at h1; simp only [List.length_append] at h1 ⊢; omega))
      clear hta htb hab hc hcs HRk HREP HC hx hkl
      go_wp2_with fail
      refine HI.out.mono ?_
      rintro e w3 ⟨v3, rfl, h3, m3⟩
      have L3 := hide (L0.out.step HTB.out HAB.out (Wm.alloc _) h3 m3)
      clear h3 m3
      go_wp2
      go_roundw
      case rel => exact ⟨k + 1, v3, _, _, by omega, by go_num, L3.out⟩
      case measure => simp [intOf]; omega
    · obtain rfl : k = n := by omega
      have HD := hide (L0.out.done (by rw [HN.out]; exact Nat.le_refl _))
      go_wp2
      go_end0
      refine ⟨vk, rfl, ?_, L0.out.wm⟩
      have := L0.out.wr
      rw [HD.out, List.append_assoc] at this
      exact this
end Go.Proofs.Ythlfbpadakoamab
/- package wire: an action, an entry, as they are told. -/
namespace Go.Proofs.Ythlfbpadakoamab
open Go.RowKit

def ActT (ac : ByteArray) (args : List BitsA) (t : List Nat) : Prop := ∃ a s b, NameT ac a ∧ ByteT args.length s ∧ ManyT NumT args b ∧ t = a ++ (s ++ b)
set_option maxHeartbeats 2000000 in
theorem waction_yes {B : Nat} {W : World} {p : Nat} {v : Value} {bs t : List Nat} (ac : ByteArray) (lv : Value) (args : List BitsA) (h : Wr B W p v bs) (hr : ListR BitsR mkAgg 3 W (· < B) lv args) (hT : ActT ac args t) (hl : bs.length + t.length ≤ slack) :
    Calls Try.prog 76 #[.pointer (some ⟨p, 0, none⟩), .string ac, lv] W fun e W' => Told B p W v bs t e W' := by
  have hmf : ∀ (fn : Fn) (first cap : Array Value) (w : World), (Instr.makeFunc fn first cap).run Try.prog w = .ok (.func fn first cap) w := fun _ _ _ _ => rfl
  obtain ⟨ta, ts, tb, hA, hS, hB, rfl⟩ := hT
  obtain ⟨la, lc, rfl⟩ := list_slice hr
  have H1 := hide (name_writes B W p v bs ta _ ac h rfl hA (by simp at hl; omega))
  have HL := hide hl; have HS := hide hS; have HB := hide hB; have HR := hide hr; have HW := hide h
  clear h hl hA hS hB hr
  go_enter Try.func76, Try.ntmps76
  go_wp2_with fail
  refine H1.out.mono ?_
  rintro e w1 ⟨v1, rfl, h1, m1⟩
  have M1 := hide m1
  have H2 := hide (list_bits _ args h1 (rep_below (ListR.ok bits_ok _ _) HR.out (m1.below HW.out HW.out.le)) HS.out HB.out (by have := HL.out; simp at this ⊢; omega))
  clear h1 m1 H1
  go_wp2_with fail
  refine H2.out.mono ?_
  rintro e w2 ⟨v2, rfl, h2, m2⟩
  have W2 := hide h2
  have M2 := hide (M1.out.trans m2)
  clear h2 m2
  go_wp2
  go_end0
  exact ⟨v2, rfl, by have := W2.out; rw [List.append_assoc] at this; exact this, M2.out⟩
def EntryT (e : EntryA) (t : List Nat) : Prop := ∃ s a b c, ByteT e.ms.length s ∧ ManyT MatchT e.ms a ∧ WholeT e.prio b ∧ ActT e.act e.args c ∧ t = (s ++ a) ++ b ++ c
set_option maxHeartbeats 2000000 in
theorem wentry_writes : Writes 49 EntryR EntryT := fun B W p v bs t u x h hr hT hl => by
  have hmf : ∀ (fn : Fn) (first cap : Array Value) (w : World), (Instr.makeFunc fn first cap).run Try.prog w = .ok (.func fn first cap) w := fun _ _ _ _ => rfl
  obtain ⟨va, vb, rfl, hva, hvb⟩ := hr
  obtain ⟨ma, mc, rfl⟩ := list_slice hva
  obtain ⟨na, nc, rfl⟩ := list_slice hvb
  obtain ⟨ts, ta, tb, tc, hS, hA, hB, hC, rfl⟩ := hT
  have hp := h.lt
  obtain ⟨O, hO⟩ : ∃ O, O = Obj.cells #[.slice ma x.ms.length mc, .int .i64 x.prio, .string x.act, .slice na x.args.length nc] 74 := ⟨_, rfl⟩
  have HS0 := hide (heap_alloc_new W O)
  have HNE : Hid (v.ownBlock ≠ some W.heap.size) := hide (fun e => by have := h.bod _ e; omega)
  have W1 := hide (h.alloc O)
  have HL := hide hl
  have hB0 : Below B W (W.alloc O) := (Below.refl _ _).alloc h.le _
  have H1 := hide (list_match _ x.ms W1.out (rep_below (ListR.ok match_ok _ _) hva hB0) hS hA (by simp at hl ⊢; omega))
  have HVB := hide (rep_below (ListR.ok bits_ok _ _) hvb hB0)
  have M0 : Hid (Wm p W v (W.alloc O) v) := hide (Wm.alloc _)
  rw [hO] at HS0 W1 H1 M0 HVB
  have HB := hide hB; have HC := hide hC
  clear h hl hS hA hB hC hO hva hvb hB0
  go_enter Try.func49, Try.ntmps49
  go_wp2_with fail
  refine H1.out.mono ?_
  rintro e w1 ⟨v1, rfl, h1, m1⟩
  have hs1 := m1.keep HS0.out (by omega) HNE.out
  obtain ⟨a0, a1, a2, a3, af⟩ := cells4 hs1
  have HS1 := hide hs1
  have HNE1 : Hid (v1.ownBlock ≠ some W.heap.size) := hide (m1.far (by simp) HNE.out)
  have M1 := hide (M0.out.trans m1)
  have HVB1 := hide (rep_below (ListR.ok bits_ok _ _) HVB.out (m1.below W1.out W1.out.le))
  have WW1 := hide h1
  have H2 := hide (whole_writes B _ p v1 _ tb _ x.prio h1 rfl HB.out (by have := HL.out; simp at this ⊢; omega))
  clear h1 m1 hs1 H1
  go_wp2_with fail
  refine H2.out.mono ?_
  rintro e w2 ⟨v2, rfl, h2, m2⟩
  have hs2 := m2.keep HS1.out (by omega) HNE1.out
  obtain ⟨a0, a1, a2, a3, af⟩ := cells4 hs2
  have M2 := hide (M1.out.trans m2)
  have H3 := hide (waction_yes x.act _ x.args h2 (rep_below (ListR.ok bits_ok _ _) HVB1.out (m2.below WW1.out WW1.out.le)) HC.out (by have := HL.out; simp at this ⊢; omega))
  clear h2 m2 hs2 H2
  go_wp2_with fail
  refine H3.out.mono ?_
  rintro e w3 ⟨v3, rfl, h3, m3⟩
  have W3 := hide h3
  have M3 := hide (M2.out.trans m3)
  clear h3 m3
  go_wp2
  go_end0
  refine ⟨v3, rfl, ?_, M3.out⟩
  have := W3.out
  simp only [List.append_assoc] at this ⊢
  exact this
/- Two bytes that tell how many. -/
def LongT (n : Nat) (t : List Nat) : Prop := n < 65536 ∧ t = [n / 256, n % 256]
theorem longT_lt {n : Nat} {t : List Nat} (h : LongT n t) : n < 1000000000000 := by have := h.1; omega
set_option maxHeartbeats 1000000 in
theorem long_sizes : Sizes 48 LongT := fun B W p v bs t n h hS hl => by
  obtain ⟨hn, rfl⟩ := hS
  have d1 : ((n : Int) ≥ 0) = True := eq_true (by omega)
  have d2 : ((n : Int) ≤ 65535) = True := eq_true (by omega)
  have d3 : ((0 : Int) ≤ (n : Int)) = True := eq_true (by omega)
  obtain ⟨a, ha⟩ : ∃ a, n / 256 = a := ⟨_, rfl⟩
  obtain ⟨b, hb⟩ : ∃ b, n % 256 = b := ⟨_, rfl⟩
  have e1 : IntKind.u8.wrap ((n : Int) / 256) = a := by rw [IntKind.wrap_u8]; omega
  have e2 : IntKind.u8.wrap (n : Int) = b := by rw [IntKind.wrap_u8]; omega
  have e3 : ((n : Int) / 256) % 256 = a := by omega
  have e4 : (n : Int) % 256 = b := by omega
  have hbs : Bs (W.alloc (.cells #[.int .u8 (a : Int), .int .u8 (b : Int)] 5)) W.heap.size 0 [a, b] := fun i hi => by
    rcases (by simp at hi; omega : i = 0 ∨ i = 1) with rfl | rfl <;> simp [World.cell?_alloc_new]
  have HP := hide (put_any W.heap.size 0 2 [a, b] (h.alloc (.cells #[.int .u8 (a : Int), .int .u8 (b : Int)] 5)) hbs (by intro x hx; simp at hx; omega) (by simp) (by simp [slack] at hl ⊢; omega))
  rw [ha, hb]
  have HM := hide must_yes
  clear h hn hl hbs ha hb
  go_enter Try.func48, Try.ntmps48
  go_wp2_with fail
  refine (HM.out _).mono ?_
  rintro e w1 ⟨rfl, hw1⟩
  subst hw1
  go_wp2_with fail
  refine HP.out.mono ?_
  rintro e w2 hT
  have H2 := hide (Told.of hT (Wm.alloc _))
  obtain ⟨v1, rfl, _, _⟩ := hT
  go_wp2
  go_end0
  exact H2.out
end Go.Proofs.Ythlfbpadakoamab
/- package wire: a list that is told. -/
namespace Go.Proofs.Ythlfbpadakoamab
open Go.RowKit

set_option maxHeartbeats 2000000 in
theorem list_entry {B : Nat} {W : World} {p : Nat} {v : Value} {bs sz t : List Nat} (lv : Value) (l : List _) (h : Wr B W p v bs) (hr : ListR EntryR mkAgg 4 W (· < B) lv l) (hS : LongT l.length sz) (hT : ManyT EntryT l t) (hl : bs.length + (sz ++ t).length ≤ slack) :
    Calls Try.prog 47 #[.func (Fn.func 48) #[.pointer (some ⟨p, 0, none⟩)] #[], lv, .func (Fn.func 49) #[.pointer (some ⟨p, 0, none⟩)] #[]] W fun e W' => Told B p W v bs (sz ++ t) e W' := by
  obtain ⟨la, lc, rfl⟩ := list_slice hr
  obtain ⟨n, hn⟩ : ∃ n, l.length = n := ⟨_, rfl⟩
  have HZ := hide (long_sizes B W p v bs sz n h (by rw [← hn]; exact hS) (by simp at hl; omega))
  have HLen : Hid (n < 1000000000000) := hide (by rw [← hn]; exact longT_lt hS)
  have HR := hide hr; have HT := hide hT; have HL := hide hl
  have HW := hide h
  have HN := hide hn
  rw [hn]
  clear h hr hS hT hl hn
  go_enter Try.func47, Try.ntmps47
  go_wp2_with fail
  refine HZ.out.mono ?_
  rintro e w1 ⟨v1, rfl, h1, m1⟩
  have H1 := hide h1; have M1 := hide m1
  clear h1 m1
  go_wp2
  go_loopw [14] (fun i wr => ∃ (k : Nat) (vk : Value) (told rest : List Nat), k ≤ n ∧ i = .int .i64 k ∧ Lt EntryT B W wr p v vk bs sz t l k told rest) (fun i _ => n - (intOf i).toNat)
  case atStart => exact ⟨0, v1, [], t, Nat.zero_le _, rfl, by rw [List.append_nil]; exact H1.out, M1.out, HT.out, rfl⟩
  case round =>
    obtain ⟨k, vk, told, rest, hk, rfl, hL⟩ := hrel
    have hnn := HLen.out
    have L0 := hide hL
    clear hL
    have hBl : Below B W wr := L0.out.wm.below HW.out HW.out.le
    have HRk := hide (rep_below (ListR.ok entry_ok _ _) HR.out hBl)
    clear hBl
    by_cases hlt : k < n
    · have hkl : k < l.length := by rw [HN.out]; exact hlt
      obtain ⟨b, off, cap, cs, he, hX, hcs, hrep, hc⟩ := list_elem HRk.out k hkl
      injection he with he1 he2 he3
      subst he1
      clear he2 he3
      obtain ⟨x, hx⟩ : ∃ x, l[k] = x := ⟨_, rfl⟩
      rw [hx] at hrep
      obtain ⟨ta, tb, hta, htb, hab⟩ := L0.out.item hkl
      rw [hx] at hta
      have HREP0 := hide hrep
      obtain ⟨va, vb, he, hva, hvb⟩ := hrep
      obtain ⟨ma, mc, rfl⟩ := list_slice hva
      obtain ⟨na, nc, rfl⟩ := list_slice hvb
      obtain rfl := agg_of he
      have HREP := HREP0
      clear he hva hvb HREP0
      have HC := hide hc
      have q0 := HC.out 0 (by simp)
      have q1 := HC.out 1 (by simp)
      have q2 := HC.out 2 (by simp)
      have q3 := HC.out 3 (by simp)
      simp only [List.getElem_cons_zero, List.getElem_cons_succ, Nat.add_zero] at q0 q1 q2 q3
      simp only [← Nat.add_assoc] at q0 q1 q2 q3
      have HTA := hide hta; have HTB := hide htb; have HAB := hide hab
      have WA := hide (L0.out.wr.alloc (.cells #[.slice ma x.ms.length mc, .int .i64 x.prio, .string x.act, .slice na x.args.length nc] 74))
      have HI := hide (wentry_writes B _ p vk _ ta _ _ WA.out (rep_below entry_ok HREP.out ((Below.refl _ _).alloc L0.out.wr.le _)) hta (by have h1 := HL.out; have h2 := L0.out.all; rw [h2, hab] at h1; simp only [List.length_append] at h1 ⊢; omega))
      clear hta htb hab hc hcs HRk HREP HC hx hkl
      go_wp2_with fail
      refine HI.out.mono ?_
      rintro e w3 ⟨v3, rfl, h3, m3⟩
      have L3 := hide (L0.out.step HTB.out HAB.out (Wm.alloc _) h3 m3)
      clear h3 m3
      go_wp2
      go_roundw
      case rel => exact ⟨k + 1, v3, _, _, by omega, by go_num, L3.out⟩
      case measure => simp [intOf]; omega
    · obtain rfl : k = n := by omega
      have HD := hide (L0.out.done (by rw [HN.out]; exact Nat.le_refl _))
      go_wp2
      go_end0
      refine ⟨vk, rfl, ?_, L0.out.wm⟩
      have := L0.out.wr
      rw [HD.out, List.append_assoc] at this
      exact this
end Go.Proofs.Ythlfbpadakoamab
/- package wire: moved; a reply, as it is told. -/
namespace Go.Proofs.Ythlfbpadakoamab
open Go.RowKit

theorem moved_str (a : Addr) (x : ByteArray) (W : World) (h : W.cell? a = some (.string x)) (hf : W.frozen? a = false) :
    Calls Try.prog 66 #[.pointer (some a)] W fun e W' => e = .returned (.string x) ∧ W' = W.setCell a (.string ⟨#[]⟩) := by
  go_enter Try.func66, Try.ntmps66
  go_wp2
  go_ret
  exact ⟨rfl, rfl⟩
theorem moved_int (a : Addr) (x : Int) (W : World) (h : W.cell? a = some (.int .i64 x)) (hf : W.frozen? a = false) :
    Calls Try.prog 72 #[.pointer (some a)] W fun e W' => e = .returned (.int .i64 x) ∧ W' = W.setCell a (.int .i64 0) := by
  go_enter Try.func72, Try.ntmps72
  go_wp2
  go_ret
  exact ⟨rfl, rfl⟩
theorem moved_ups (a : Addr) (s : Option Addr) (n c : Nat) (W : World) (h : W.cell? a = some (.slice s n c)) (hf : W.frozen? a = false) :
    Calls Try.prog 69 #[.pointer (some a)] W fun e W' => e = .returned (.slice s n c) ∧ W' = W.setCell a (.slice none 0 0) := by
  go_enter Try.func69, Try.ntmps69
  go_wp2
  go_ret
  exact ⟨rfl, rfl⟩
theorem moved_bits (a : Addr) (s : Option Addr) (n c : Nat) (W : World) (h : W.cell? a = some (.slice s n c)) (hf : W.frozen? a = false) :
    Calls Try.prog 96 #[.pointer (some a)] W fun e W' => e = .returned (.slice s n c) ∧ W' = W.setCell a (.slice none 0 0) := by
  go_enter Try.func96, Try.ntmps96
  go_wp2
  go_ret
  exact ⟨rfl, rfl⟩
theorem moved_ints (a : Addr) (s : Option Addr) (n c : Nat) (W : World) (h : W.cell? a = some (.slice s n c)) (hf : W.frozen? a = false) :
    Calls Try.prog 98 #[.pointer (some a)] W fun e W' => e = .returned (.slice s n c) ∧ W' = W.setCell a (.slice none 0 0) := by
  go_enter Try.func98, Try.ntmps98
  go_wp2
  go_ret
  exact ⟨rfl, rfl⟩
def RepT (r : RepA) (t : List Nat) : Prop := ∃ (n : Nat) (a b s c d : List Nat), r.err = (n : Int) ∧ ByteT n a ∧ WholeT r.at' b ∧ LongT r.ents.length s ∧ ManyT EntryT r.ents c ∧ NumT r.val d ∧ t = a ++ b ++ (s ++ c) ++ d
set_option maxHeartbeats 2000000 in
theorem wreply_writes : Writes 17 RepR RepT := fun B W p v bs t u x h hr hT hl => by
  have hmf : ∀ (fn : Fn) (first cap : Array Value) (w : World), (Instr.makeFunc fn first cap).run Try.prog w = .ok (.func fn first cap) w := fun _ _ _ _ => rfl
  obtain ⟨ve, rfl, hve⟩ := hr
  obtain ⟨ea, ec, rfl⟩ := list_slice hve
  obtain ⟨n, ta, tb, ts, tc, td, hn, hA, hB, hS, hC, hD, rfl⟩ := hT
  rw [hn]
  have hp := h.lt
  obtain ⟨O, hO⟩ : ∃ O, O = Obj.cells #[.int .i64 (n : Int), .int .i64 x.at', .slice ea x.ents.length ec, .int .i64 x.val.w, .int .u64 x.val.hi, .int .u64 x.val.lo] 37 := ⟨_, rfl⟩
  have HS0 := hide (heap_alloc_new W O)
  have HNE : Hid (v.ownBlock ≠ some W.heap.size) := hide (fun e => by have := h.bod _ e; omega)
  have W1 := hide (h.alloc O)
  have HL := hide hl
  have hB0 : Below B W (W.alloc O) := (Below.refl _ _).alloc h.le _
  have H1 := hide (byte_sizes B _ p v bs ta n W1.out hA (by simp at hl ⊢; omega))
  have HVB := hide (rep_below (ListR.ok entry_ok _ _) hve hB0)
  have M0 : Hid (Wm p W v (W.alloc O) v) := hide (Wm.alloc _)
  rw [hO] at HS0 W1 H1 M0 HVB
  have HB := hide hB; have HC := hide hC; have HSZ := hide hS; have HD := hide hD
  clear h hl hS hA hB hC hO hve hB0 hD hn
  go_enter Try.func17, Try.ntmps17
  go_wp2_with fail
  refine H1.out.mono ?_
  rintro e w1 ⟨v1, rfl, h1, m1⟩
  have hs1 := m1.keep HS0.out (by omega) HNE.out
  obtain ⟨a0, a1, a2, a3, a4, a5, af⟩ := cells6 hs1
  have HS1 := hide hs1
  have HNE1 : Hid (v1.ownBlock ≠ some W.heap.size) := hide (m1.far (by simp) HNE.out)
  have HZ1 := hide (lt_of_heap hs1)
  have M1 := hide (M0.out.trans m1)
  have HVB1 := hide (rep_below (ListR.ok entry_ok _ _) HVB.out (m1.below W1.out W1.out.le))
  have WW1 := hide h1
  have H2 := hide (whole_writes B _ p v1 _ tb _ x.at' h1 rfl HB.out (by have := HL.out; simp at this ⊢; omega))
  clear h1 m1 hs1 H1
  go_wp2_with fail
  refine H2.out.mono ?_
  rintro e w2 ⟨v2, rfl, h2, m2⟩
  have hs2 := m2.keep HS1.out (by omega) HNE1.out
  obtain ⟨a0, a1, a2, a3, a4, a5, af⟩ := cells6 hs2
  have HS2 := hide hs2
  have HNE2 : Hid (v2.ownBlock ≠ some W.heap.size) := hide (m2.far HZ1.out HNE1.out)
  have HZ2 := hide (lt_of_heap hs2)
  have M2 := hide (M1.out.trans m2)
  have H3 := hide (list_entry _ x.ents h2 (rep_below (ListR.ok entry_ok _ _) HVB1.out (m2.below WW1.out WW1.out.le)) HSZ.out HC.out (by have := HL.out; simp at this ⊢; omega))
  clear h2 m2 hs2 H2
  go_wp2_with fail
  refine H3.out.mono ?_
  rintro e w3 ⟨v3, rfl, h3, m3⟩
  have hs3 := m3.keep HS2.out (by omega) HNE2.out
  obtain ⟨a0, a1, a2, a3, a4, a5, af⟩ := cells6 hs3
  have M3 := hide (M2.out.trans m3)
  have H4 := hide (number_writes B _ p v3 _ td _ x.val h3 rfl HD.out (by have := HL.out; simp at this ⊢; omega))
  unfold BitsA.val at H4
  clear h3 m3 hs3 H3
  go_wp2_with fail
  refine H4.out.mono ?_
  rintro e w4 ⟨v4, rfl, h4, m4⟩
  have W4 := hide h4
  have M4 := hide (M3.out.trans m4)
  clear h4 m4
  go_wp2
  go_end0
  refine ⟨v4, rfl, ?_, M4.out⟩
  have := W4.out
  simp only [List.append_assoc] at this ⊢
  exact this
end Go.Proofs.Ythlfbpadakoamab
/- package wire: an update's kinds, as they are told. -/
namespace Go.Proofs.Ythlfbpadakoamab
open Go.RowKit

/- A call may touch a box at s, too. -/
structure WmS (s p : Nat) (W : World) (v : Value) (W' : World) (v' : Value) : Prop where
  fr : Fr (fun b => b = p ∨ v.ownBlock = some b ∨ b = s) W W'
  own : v'.ownBlock = v.ownBlock ∨ ∀ b, v'.ownBlock = some b → W.heap.size ≤ b
theorem WmS.of {s p : Nat} {W W' : World} {v v' : Value} (h : Wm p W v W' v') : WmS s p W v W' v' := ⟨⟨h.fr.os, h.fr.tape, h.fr.output, h.fr.size, fun b hb hn => h.fr.block b hb (fun e => hn (e.elim .inl (fun e => .inr (.inl e))))⟩, h.own⟩
theorem WmS.ofFr {s p : Nat} {W W' : World} {v : Value} (h : Fr (· = s) W W') : WmS s p W v W' v := ⟨⟨h.os, h.tape, h.output, h.size, fun b hb hn => h.block b hb (fun e => hn (.inr (.inr e)))⟩, .inl rfl⟩
theorem WmS.trans {s p : Nat} {W W1 W2 : World} {v v1 v2 : Value} (h : WmS s p W v W1 v1) (k : WmS s p W1 v1 W2 v2) : WmS s p W v W2 v2 := by
  refine ⟨h.fr.trans k.fr (fun b hb e => ?_), ?_⟩
  · rcases e with e | e | e
    · exact .inl e
    · rcases h.own with o | o
      · exact .inr (.inl (o ▸ e))
      · have := o b e; omega
    · exact .inr (.inr e)
  · rcases k.own with o | o
    · rcases h.own with o' | o'
      · exact .inl (o.trans o')
      · exact .inr (fun b e => o' b (o ▸ e))
    · exact .inr (fun b e => Nat.le_trans h.fr.size (o b e))
theorem WmS.out {s p : Nat} {W0 W W' : World} {v0 v v' : Value} (h0 : Wm p W0 v0 W v) (h : WmS s p W v W' v') (hs : W0.heap.size ≤ s) : Wm p W0 v0 W' v' := by
  refine ⟨h0.fr.trans h.fr (fun b hb e => ?_), ?_⟩
  · rcases e with e | e | e
    · exact .inl e
    · rcases h0.own with o | o
      · exact .inr (o ▸ e)
      · have := o b e; omega
    · omega
  · rcases h.own with o | o
    · rcases h0.own with o' | o'
      · exact .inl (o.trans o')
      · exact .inr (fun b e => o' b (o ▸ e))
    · exact .inr (fun b e => Nat.le_trans h0.fr.size (o b e))
theorem WmS.far {s p : Nat} {W W' : World} {v v' : Value} (h : WmS s p W v W' v') {b : Nat} (hs : b < W.heap.size) (hv : v.ownBlock ≠ some b) : v'.ownBlock ≠ some b := fun e => by
  rcases h.own with o | o
  · exact hv (o ▸ e)
  · have := o b e; omega
theorem WmS.below {B s p : Nat} {W W' : World} {v v' : Value} {bs : List Nat} (h : WmS s p W v W' v') (hw : Wr B W p v bs) (hs : B ≤ s) : Below B W W' := by
  obtain ⟨ys, ho, _⟩ := hw.body
  exact h.fr.below (fun b e => by rcases e with rfl | e | rfl; exact hw.pB; exact (own_lt ho b e).1; exact hs) hw.le
theorem Wr.fr {B s : Nat} {W W' : World} {p : Nat} {v : Value} {bs : List Nat} (h : Wr B W p v bs) (hf : Fr (· = s) W W') (hp : s ≠ p) (hv : v.ownBlock ≠ some s) : Wr B W' p v bs := by
  obtain ⟨ys, h1, h2, h3⟩ := h.body
  exact ⟨(hf.block p h.lt (fun e => hp e.symm)).trans h.cell, h.pB, h.ne, ⟨ys, sameRow h1 (fun b e => hf.block b (h.bod b e) (fun e' => hv (by rw [e, e']))), h2, h3⟩, h.small⟩
theorem heap_set {W : World} {s k : Nat} {cur : Array Value} {t : TypeId} (h : W.heap[s]? = some (.cells cur t (0, 0))) (v : Value) : (W.setCell ⟨s, k, none⟩ v).heap[s]? = some (.cells (cur.setIfInBounds k v) t (0, 0)) := heap_setCell_same h v
def boxU (kv : Int) (tb : ByteArray) (va : Value) (pr : Int) (ac : ByteArray) (vb : Value) (n : Int) (vp : Value) : Obj := .cells #[.int .u8 kv, .string tb, va, .int .i64 pr, .string ac, vb, .int .i64 n, vp] 104
/- A list that is none. -/
def NoneS (v : Value) : Prop := ∃ a c, v = .slice a 0 c
set_option maxHeartbeats 2000000 in
theorem moved_entry (s : Nat) (kv pr n : Int) (tb ac : ByteArray) (ma na pa : Option Addr) (ml mc nl nc pl pc : Nat) (W : World) (h : W.heap[s]? = some (boxU kv tb (.slice ma ml mc) pr ac (.slice na nl nc) n (.slice pa pl pc))) :
    Calls Try.prog 95 #[.pointer (some ⟨s, 2, none⟩)] W fun e W' => e = .returned (.agg #[.slice ma ml mc, .int .i64 pr, .string ac, .slice na nl nc]) ∧ W'.heap[s]? = some (boxU kv tb (.slice none 0 0) 0 ⟨#[]⟩ (.slice none 0 0) n (.slice pa pl pc)) ∧ Fr (· = s) W W' := by
  unfold boxU at h ⊢
  have hs := lt_of_heap h
  obtain ⟨a0, a1, a2, a3, a4, a5, a6, a7, af⟩ := cells8 h
  have H := hide h
  have h3 : ∀ o1 o2 o3 : Obj, (((W.alloc o1).alloc o2).alloc o3).heap[s]? = some (.cells #[.int .u8 kv, .string tb, .slice ma ml mc, .int .i64 pr, .string ac, .slice na nl nc, .int .i64 n, .slice pa pl pc] 104 (0, 0)) := fun o1 o2 o3 => by
    rw [Below.heap_alloc _ _ _ (by simp; omega), Below.heap_alloc _ _ _ (by simp; omega), Below.heap_alloc _ _ _ hs]; exact h
  have c2 : ∀ o1 o2 o3 : Obj, (((W.alloc o1).alloc o2).alloc o3).cell? ⟨s, 2, none⟩ = some (.slice ma ml mc) := fun o1 o2 o3 => (cells8 (h3 o1 o2 o3)).2.2.1
  have c3 : ∀ o1 o2 o3 : Obj, (((W.alloc o1).alloc o2).alloc o3).cell? ⟨s, 3, none⟩ = some (.int .i64 pr) := fun o1 o2 o3 => (cells8 (h3 o1 o2 o3)).2.2.2.1
  have c4 : ∀ o1 o2 o3 : Obj, (((W.alloc o1).alloc o2).alloc o3).cell? ⟨s, 4, none⟩ = some (.string ac) := fun o1 o2 o3 => (cells8 (h3 o1 o2 o3)).2.2.2.2.1
  have c5 : ∀ o1 o2 o3 : Obj, (((W.alloc o1).alloc o2).alloc o3).cell? ⟨s, 5, none⟩ = some (.slice na nl nc) := fun o1 o2 o3 => (cells8 (h3 o1 o2 o3)).2.2.2.2.2.1
  have cf : ∀ (o1 o2 o3 : Obj) (o : Nat), (((W.alloc o1).alloc o2).alloc o3).frozen? ⟨s, o, none⟩ = false := fun o1 o2 o3 => (cells8 (h3 o1 o2 o3)).2.2.2.2.2.2.2.2
  have hs1 : ¬ W.heap.size = s := by omega
  have hs2 : ¬ W.heap.size + 1 = s := by omega
  have hs3 : ¬ W.heap.size + 1 + 1 = s := by omega
  have H3 := hide h3
  clear h h3
  go_enter Try.func95, Try.ntmps95
  go_wp2
  have hr : (((W.alloc zeroE).alloc zeroE).alloc (.cells #[.slice ma ml mc, .int .i64 pr, .string ac, .slice na nl nc] 74)).heap[W.heap.size]? = some zeroE := by
    rw [Below.heap_alloc _ _ _ (by simp; omega), Below.heap_alloc _ _ _ (by simp)]; exact heap_alloc_new W _
  have hfr : Fr (· = s) W (((W.alloc zeroE).alloc zeroE).alloc (.cells #[.slice ma ml mc, .int .i64 pr, .string ac, .slice na nl nc] 74)) := (((Fr.refl _ _).alloc _).alloc _).alloc _
  have hh := H3.out zeroE zeroE (.cells #[.slice ma ml mc, .int .i64 pr, .string ac, .slice na nl nc] 74)
  unfold zeroE at hr hfr hh
  clear c2 c3 c4 c5 cf H3
  generalize (((W.alloc (.cells #[.slice none 0 0, .int .i64 0, .string ⟨#[]⟩, .slice none 0 0] 74)).alloc (.cells #[.slice none 0 0, .int .i64 0, .string ⟨#[]⟩, .slice none 0 0] 74)).alloc (.cells #[.slice ma ml mc, .int .i64 pr, .string ac, .slice na nl nc] 74)) = W3 at *
  obtain ⟨r0, r1, r2, r3, rf⟩ := cells4 hr
  have hs1' : ¬ s = W.heap.size := by omega
  refine bodyPost_ret (v := .agg #[.slice ma ml mc, .int .i64 pr, .string ac, .slice na nl nc]) (by simp [results, Try.results95, go_sem, r0, r1, r2, r3]) rfl ⟨rfl, ?_, ?_⟩
  · rw [set_other hs1', set_other hs1', set_other hs1', set_other hs1']
    exact heap_setCell_same (heap_setCell_same (heap_setCell_same (heap_setCell_same hh _) _) _) _
  · have f0 : Fr (fun b => b = s ∨ b = W.heap.size) W W3 := (Fr.refl _ W).trans hfr (fun b _ e => .inl e)
    have g := (((((((f0.set ⟨s, 2, none⟩ (.slice none 0 0) (.inl rfl)).set ⟨s, 3, none⟩ (.int .i64 0) (.inl rfl)).set ⟨s, 4, none⟩ (.string ⟨#[]⟩) (.inl rfl)).set ⟨s, 5, none⟩ (.slice none 0 0) (.inl rfl)).set ⟨W.heap.size, 0, none⟩ (.slice ma ml mc) (.inr rfl)).set ⟨W.heap.size, 1, none⟩ (.int .i64 pr) (.inr rfl)).set ⟨W.heap.size, 2, none⟩ (.string ac) (.inr rfl)).set ⟨W.heap.size, 3, none⟩ (.slice na nl nc) (.inr rfl)
    exact (Fr.refl _ W).trans g (fun b hb e => by rcases e with e | e; exact e; omega)
end Go.Proofs.Ythlfbpadakoamab
/- package wire: an update's kinds, as they are told. -/
namespace Go.Proofs.Ythlfbpadakoamab
open Go.RowKit

def UKind (G : Nat) (KT : UpdA → List Nat → Prop) : Prop :=
  ∀ (B : Nat) (W : World) (p s : Nat) (v : Value) (bs t : List Nat) (x : UpdA) (kv : Int) (va vb vp : Value), Wr B W p v bs → W.heap[s]? = some (boxU kv x.table va x.entry.prio x.entry.act vb x.n vp) → s ≠ p → v.ownBlock ≠ some s → B ≤ s →
    ListR MatchR mkAgg 7 W (· < B) va x.entry.ms → ListR BitsR mkAgg 3 W (· < B) vb x.entry.args → ListR IntR mkOne 1 W (· < B) vp x.ports → KT x t → bs.length + t.length ≤ slack →
    Calls Try.prog G #[.pointer (some ⟨p, 0, none⟩), .pointer (some ⟨s, 0, none⟩)] W fun e W' => ∃ v' va' vb' vp', e = .returned (.tuple #[]) ∧ Wr B W' p v' (bs ++ t) ∧ WmS s p W v W' v' ∧ W'.heap[s]? = some (boxU kv ⟨#[]⟩ va' 0 ⟨#[]⟩ vb' 0 vp') ∧ NoneS va' ∧ NoneS vb' ∧ NoneS vp'
def ChangeT (x : UpdA) (t : List Nat) : Prop := x.n = 0 ∧ x.ports = [] ∧ ∃ a b, NameT x.table a ∧ EntryT x.entry b ∧ t = a ++ b
def OtherT (x : UpdA) (t : List Nat) : Prop := x.n = 0 ∧ x.ports = [] ∧ x.entry.ms = [] ∧ x.entry.prio = 0 ∧ ∃ a b, NameT x.table a ∧ ActT x.entry.act x.entry.args b ∧ t = a ++ b
def GroupT (x : UpdA) (t : List Nat) : Prop := x.table = ByteArray.empty ∧ x.entry.ms = [] ∧ x.entry.prio = 0 ∧ x.entry.act = ByteArray.empty ∧ x.entry.args = [] ∧ ∃ a s b, WholeT x.n a ∧ ByteT x.ports.length s ∧ ManyT WholeT x.ports b ∧ t = a ++ (s ++ b)
theorem Fr.belowS {B s : Nat} {W W' : World} (h : Fr (· = s) W W') (hs : B ≤ s) (hB : B ≤ W.heap.size) : Below B W W' := h.below (fun b e => by have e' : b = s := e; omega) hB
theorem box_cells {W : World} {s : Nat} {kv pr n : Int} {tb ac : ByteArray} {va vb vp : Value} (h : W.heap[s]? = some (boxU kv tb va pr ac vb n vp)) : W.cell? ⟨s, 0, none⟩ = some (.int .u8 kv) ∧ W.cell? ⟨s, 1, none⟩ = some (.string tb) ∧ W.cell? ⟨s, 2, none⟩ = some va ∧ W.cell? ⟨s, 3, none⟩ = some (.int .i64 pr) ∧ W.cell? ⟨s, 4, none⟩ = some (.string ac) ∧ W.cell? ⟨s, 5, none⟩ = some vb ∧ W.cell? ⟨s, 6, none⟩ = some (.int .i64 n) ∧ W.cell? ⟨s, 7, none⟩ = some vp ∧ ∀ o, W.frozen? ⟨s, o, none⟩ = false := cells8 h
theorem list_zero {α : Type} {rep : World → (Nat → Prop) → Value → α → Prop} {mk : List Value → Value} {K : Nat} {W : World} {X : Nat → Prop} {v : Value} {l : List α} (h : ListR rep mk K W X v l) (hl : l = []) : NoneS v := by
  obtain ⟨a, c, e⟩ := list_slice h
  subst hl
  exact ⟨a, c, e⟩
set_option maxHeartbeats 2000000 in
theorem wchange_kind : UKind 88 ChangeT := fun B W p s v bs t x kv va vb vp h hb hp hv hB hva hvb hvp hT hl => by
  obtain ⟨hn, hpo, ta, tb, hA, hE, rfl⟩ := hT
  obtain ⟨ma, mc, rfl⟩ := list_slice hva
  obtain ⟨na, nc, rfl⟩ := list_slice hvb
  have HNP := hide (list_zero hvp hpo)
  obtain ⟨pa, pc, rfl⟩ := list_slice hvp
  obtain ⟨a0, a1, a2, a3, a4, a5, a6, a7, af⟩ := box_cells hb
  have HM := hide (moved_str ⟨s, 1, none⟩ x.table W a1 (af 1))
  have F1 : Hid (Fr (· = s) W (W.setCell ⟨s, 1, none⟩ (.string ⟨#[]⟩))) := hide ((Fr.refl _ _).set _ _ rfl)
  have HB1 : Hid ((W.setCell ⟨s, 1, none⟩ (.string ⟨#[]⟩)).heap[s]? = some (boxU kv ⟨#[]⟩ (.slice ma x.entry.ms.length mc) x.entry.prio x.entry.act (.slice na x.entry.args.length nc) x.n (.slice pa x.ports.length pc))) := hide (heap_setCell_same hb _)
  have W1 := hide (h.fr F1.out hp hv)
  have H1 := hide (name_writes B _ p v bs ta _ x.table W1.out rfl hA (by simp at hl; omega))
  have HW := hide h; have HL := hide hl; have HE := hide hE; have HP := hide hp; have HV := hide hv; have HBS := hide hB
  have HVA := hide hva; have HVB := hide hvb
  have HX0 := hide hn
  clear h hb hp hv hB hva hvb hvp hl hA hE hn a0 a1 a2 a3 a4 a5 a6 a7 af
  go_enter Try.func88, Try.ntmps88
  go_wp2_with fail
  refine HM.out.mono ?_
  rintro e w1 ⟨rfl, hw1⟩
  subst hw1
  go_wp2_with fail
  refine H1.out.mono ?_
  rintro e w2 ⟨v2, rfl, h2, m2⟩
  have hb2 := m2.keep HB1.out HP.out HV.out
  have hv2 := m2.far (lt_of_heap HB1.out) HV.out
  have S2 := hide ((WmS.ofFr (v := v) (p := p) F1.out).trans (WmS.of m2))
  have BL2 := hide (((F1.out.belowS HBS.out HW.out.le)).trans (m2.below W1.out W1.out.le))
  have WW2 := hide h2
  have HME := hide (moved_entry s kv x.entry.prio x.n ⟨#[]⟩ x.entry.act ma na pa _ mc _ nc _ pc w2 hb2)
  have HV2 := hide hv2
  clear h2 m2 hb2 hv2 H1 HM
  go_wp2_with fail
  refine HME.out.mono ?_
  rintro e w3 ⟨rfl, hb3, f3⟩
  have W3 := hide (WW2.out.fr f3 HP.out HV2.out)
  have BL3 := hide (BL2.out.trans (f3.belowS HBS.out WW2.out.le))
  have HB3 := hide hb3
  have S3 := hide (S2.out.trans (WmS.ofFr (v := v2) (p := p) f3))
  have H4 := hide (wentry_writes B w3 p v2 _ tb _ x.entry W3.out ⟨_, _, rfl, rep_below (ListR.ok match_ok _ _) HVA.out BL3.out, rep_below (ListR.ok bits_ok _ _) HVB.out BL3.out⟩ HE.out (by have := HL.out; simp at this ⊢; omega))
  clear hb3 f3 HME
  go_wp2_with fail
  refine H4.out.mono ?_
  rintro e w4 ⟨v4, rfl, h4, m4⟩
  have HB4 := hide (m4.keep HB3.out HP.out HV2.out)
  have S4 := hide (S3.out.trans (WmS.of m4))
  have W4 := hide h4
  clear h4 m4
  go_wp2
  go_end0
  refine ⟨v4, _, _, _, rfl, by have := W4.out; rw [List.append_assoc] at this; exact this, S4.out, by have := HB4.out; rw [HX0.out] at this; exact this, ⟨_, _, rfl⟩, ⟨_, _, rfl⟩, HNP.out⟩
set_option maxHeartbeats 2000000 in
theorem wgroup_kind : UKind 90 GroupT := fun B W p s v bs t x kv va vb vp h hb hp hv hB hva hvb hvp hT hl => by
  have hmf : ∀ (fn : Fn) (first cap : Array Value) (w : World), (Instr.makeFunc fn first cap).run Try.prog w = .ok (.func fn first cap) w := fun _ _ _ _ => rfl
  obtain ⟨ht, hms, hpr, hac, har, ta, ts, tb, hA, hS, hE, rfl⟩ := hT
  have HNA := hide (list_zero hva hms); have HNB := hide (list_zero hvb har)
  obtain ⟨pa, pc, rfl⟩ := list_slice hvp
  obtain ⟨a0, a1, a2, a3, a4, a5, a6, a7, af⟩ := box_cells hb
  have HM := hide (moved_int ⟨s, 6, none⟩ x.n W a6 (af 6))
  have F1 : Hid (Fr (· = s) W (W.setCell ⟨s, 6, none⟩ (.int .i64 0))) := hide ((Fr.refl _ _).set _ _ rfl)
  have HB1 : Hid ((W.setCell ⟨s, 6, none⟩ (.int .i64 0)).heap[s]? = some (boxU kv x.table va x.entry.prio x.entry.act vb 0 (.slice pa x.ports.length pc))) := hide (heap_setCell_same hb _)
  have W1 := hide (h.fr F1.out hp hv)
  have H1 := hide (whole_writes B _ p v bs ta _ x.n W1.out rfl hA (by simp at hl; omega))
  have HW := hide h; have HL := hide hl; have HE := hide hE; have HP := hide hp; have HV := hide hv; have HBS := hide hB
  have HVP := hide hvp; have HSZ := hide hS
  have HX0 := hide ht; have HX1 := hide hpr; have HX2 := hide hac
  clear h hb hp hv hB hva hvb hvp hl hA hE hS ht hpr hac a0 a1 a2 a3 a4 a5 a6 a7 af
  go_enter Try.func90, Try.ntmps90
  go_wp2_with fail
  refine HM.out.mono ?_
  rintro e w1 ⟨rfl, hw1⟩
  subst hw1
  go_wp2_with fail
  refine H1.out.mono ?_
  rintro e w2 ⟨v2, rfl, h2, m2⟩
  have hb2 := m2.keep HB1.out HP.out HV.out
  have hv2 := m2.far (lt_of_heap HB1.out) HV.out
  have S2 := hide ((WmS.ofFr (v := v) (p := p) F1.out).trans (WmS.of m2))
  have BL2 := hide (((F1.out.belowS HBS.out HW.out.le)).trans (m2.below W1.out W1.out.le))
  have WW2 := hide h2
  obtain ⟨a0, a1, a2, a3, a4, a5, a6, a7, af⟩ := box_cells hb2
  have HME := hide (moved_ints ⟨s, 7, none⟩ pa _ pc w2 a7 (af 7))
  have F3 : Hid (Fr (· = s) w2 (w2.setCell ⟨s, 7, none⟩ (.slice none 0 0))) := hide ((Fr.refl _ _).set _ _ rfl)
  have HB3 : Hid ((w2.setCell ⟨s, 7, none⟩ (.slice none 0 0)).heap[s]? = some (boxU kv x.table va x.entry.prio x.entry.act vb 0 (.slice none 0 0))) := hide (heap_setCell_same hb2 _)
  have HV2 := hide hv2
  have W3 := hide (h2.fr F3.out HP.out hv2)
  have BL3 := hide (BL2.out.trans (F3.out.belowS HBS.out h2.le))
  have S3 := hide (S2.out.trans (WmS.ofFr (v := v2) (p := p) F3.out))
  have H4 := hide (list_int _ x.ports W3.out (rep_below (ListR.ok int_ok _ _) HVP.out BL3.out) HSZ.out HE.out (by have := HL.out; simp at this ⊢; omega))
  clear h2 m2 hb2 hv2 H1 HM a0 a1 a2 a3 a4 a5 a6 a7 af
  go_wp2_with fail
  refine HME.out.mono ?_
  rintro e w3 ⟨rfl, hw3⟩
  subst hw3
  go_wp2_with fail
  refine H4.out.mono ?_
  rintro e w4 ⟨v4, rfl, h4, m4⟩
  have HB4 := hide (m4.keep HB3.out HP.out HV2.out)
  have S4 := hide (S3.out.trans (WmS.of m4))
  have W4 := hide h4
  clear h4 m4
  go_wp2
  go_end0
  refine ⟨v4, _, _, _, rfl, by have := W4.out; rw [List.append_assoc] at this; exact this, S4.out, by have := HB4.out; rw [HX0.out, HX1.out, HX2.out] at this; exact this, HNA.out, HNB.out, ⟨_, _, rfl⟩⟩
end Go.Proofs.Ythlfbpadakoamab
/- package wire: an update by which a table has another default, as it is told. -/
namespace Go.Proofs.Ythlfbpadakoamab
open Go.RowKit

structure OtS (s : Nat) (w2 W' : World) (kv n : Int) (tb ac : ByteArray) (va vb vp : Value) (pr : Int) : Prop where
  fr : Fr (· = s) w2 W'
  box : W'.heap[s]? = some (boxU kv tb va pr ac vb n vp)
theorem OtS.str {s : Nat} {w2 W' : World} {kv n : Int} {tb ac : ByteArray} {va vb vp : Value} {pr : Int} (h : OtS s w2 W' kv n tb ac va vb vp pr) : OtS s w2 (W'.setCell ⟨s, 4, none⟩ (.string ⟨#[]⟩)) kv n tb ⟨#[]⟩ va vb vp pr := ⟨h.fr.set _ _ rfl, heap_setCell_same h.box _⟩
theorem OtS.sli {s : Nat} {w2 W' : World} {kv n : Int} {tb ac : ByteArray} {va vb vp : Value} {pr : Int} (h : OtS s w2 W' kv n tb ac va vb vp pr) : OtS s w2 (W'.setCell ⟨s, 5, none⟩ (.slice none 0 0)) kv n tb ac va (.slice none 0 0) vp pr := ⟨h.fr.set _ _ rfl, heap_setCell_same h.box _⟩
theorem OtS.moveStr {s : Nat} {w2 W' : World} {kv n : Int} {tb ac : ByteArray} {va vb vp : Value} {pr : Int} (h : OtS s w2 W' kv n tb ac va vb vp pr) :
    Calls Try.prog 66 #[.pointer (some ⟨s, 4, none⟩)] W' fun e W'' => e = .returned (.string ac) ∧ OtS s w2 W'' kv n tb ⟨#[]⟩ va vb vp pr := by
  obtain ⟨a0, a1, a2, a3, a4, a5, a6, a7, af⟩ := box_cells h.box
  exact (moved_str ⟨s, 4, none⟩ ac W' a4 (af 4)).mono (fun e W'' ⟨h1, h2⟩ => ⟨h1, by rw [h2]; exact h.str⟩)
theorem OtS.moveSli {s : Nat} {w2 W' : World} {kv n : Int} {tb ac : ByteArray} {va vp : Value} {pr : Int} {na : Option Addr} {nl nc : Nat} (h : OtS s w2 W' kv n tb ac va (.slice na nl nc) vp pr) :
    Calls Try.prog 96 #[.pointer (some ⟨s, 5, none⟩)] W' fun e W'' => e = .returned (.slice na nl nc) ∧ OtS s w2 W'' kv n tb ac va (.slice none 0 0) vp pr := by
  obtain ⟨a0, a1, a2, a3, a4, a5, a6, a7, af⟩ := box_cells h.box
  exact (moved_bits ⟨s, 5, none⟩ na nl nc W' a5 (af 5)).mono (fun e W'' ⟨h1, h2⟩ => ⟨h1, by rw [h2]; exact h.sli⟩)
set_option maxHeartbeats 4000000 in
theorem wother_kind : UKind 89 OtherT := fun B W p s v bs t x kv va vb vp h hb hp hv hB hva hvb hvp hT hl => by
  obtain ⟨hn, hpo, hms, hpr, ta, tb, hA, hE, rfl⟩ := hT
  have HNA := hide (list_zero hva hms); have HNP := hide (list_zero hvp hpo)
  obtain ⟨na, nc, rfl⟩ := list_slice hvb
  obtain ⟨a0, a1, a2, a3, a4, a5, a6, a7, af⟩ := box_cells hb
  have HM := hide (moved_str ⟨s, 1, none⟩ x.table W a1 (af 1))
  have F1 : Hid (Fr (· = s) W (W.setCell ⟨s, 1, none⟩ (.string ⟨#[]⟩))) := hide ((Fr.refl _ _).set _ _ rfl)
  have HB1 : Hid ((W.setCell ⟨s, 1, none⟩ (.string ⟨#[]⟩)).heap[s]? = some (boxU kv ⟨#[]⟩ va x.entry.prio x.entry.act (.slice na x.entry.args.length nc) x.n vp)) := hide (heap_setCell_same hb _)
  have W1 := hide (h.fr F1.out hp hv)
  have H1 := hide (name_writes B _ p v bs ta _ x.table W1.out rfl hA (by simp at hl; omega))
  have HW := hide h; have HL := hide hl; have HE := hide hE; have HP := hide hp; have HV := hide hv; have HBS := hide hB
  have HVB := hide hvb
  have HX0 := hide hn; have HX1 := hide hpr
  clear h hb hp hv hB hva hvb hvp hl hA hE hn hpr a0 a1 a2 a3 a4 a5 a6 a7 af
  go_enter Try.func89, Try.ntmps89
  go_wp2_with fail
  refine HM.out.mono ?_
  rintro e w1 ⟨rfl, hw1⟩
  subst hw1
  go_wp2_with fail
  refine H1.out.mono ?_
  rintro e w2 ⟨v2, rfl, h2, m2⟩
  have hb2 := m2.keep HB1.out HP.out HV.out
  have hv2 := m2.far (lt_of_heap HB1.out) HV.out
  have S2 := hide ((WmS.ofFr (v := v) (p := p) F1.out).trans (WmS.of m2))
  have BL2 := hide (((F1.out.belowS HBS.out HW.out.le)).trans (m2.below W1.out W1.out.le))
  have WW2 := hide h2
  have HV2 := hide hv2
  have O2 : Hid (OtS s w2 w2.drew kv x.n ⟨#[]⟩ x.entry.act va (.slice na x.entry.args.length nc) vp x.entry.prio) := hide ⟨(Fr.refl _ _).drew, hb2⟩
  have HACT := hide (fun W' (hO : OtS s w2 W' kv x.n ⟨#[]⟩ ⟨#[]⟩ va (.slice none 0 0) vp x.entry.prio) => waction_yes (t := tb) x.entry.act (.slice na x.entry.args.length nc) x.entry.args (h2.fr hO.fr HP.out hv2) (rep_below (ListR.ok bits_ok _ _) HVB.out (BL2.out.trans (hO.fr.belowS HBS.out h2.le))) HE.out (by have := HL.out; simp at this ⊢; omega))
  clear h2 m2 hb2 hv2 H1 HM
  go_wp2
  go_region_with (first
    | (go_at_call 66; first
        | (refine O2.out.moveStr.mono ?_; rintro e w3 ⟨rfl, ho3⟩; have O3 := hide ho3; clear ho3)
        | (refine O4.out.moveStr.mono ?_; rintro e w5 ⟨rfl, ho5⟩; have O5 := hide ho5; clear ho5))
    | (go_at_call 96; first
        | (refine O2.out.moveSli.mono ?_; rintro e w4 ⟨rfl, ho4⟩; have O4 := hide ho4; clear ho4)
        | (refine O3.out.moveSli.mono ?_; rintro e w5 ⟨rfl, ho5⟩; have O5 := hide ho5; clear ho5))
    | (go_at_call 76; refine (HACT.out w5 O5.out).mono ?_; rintro e w6 ⟨v6, rfl, h6, m6⟩; have W6 := hide h6; have M6 := hide m6; clear h6 m6))
  all_goals
    go_wp2
    go_end0
    refine ⟨v6, _, _, _, rfl, by have := W6.out; rw [List.append_assoc] at this; exact this, S2.out.trans ((WmS.ofFr (v := v2) (p := p) O5.out.fr).trans (WmS.of M6.out)), by have := M6.out.keep O5.out.box HP.out HV2.out; rw [HX0.out, HX1.out] at this; exact this, HNA.out, ⟨_, _, rfl⟩, HNP.out⟩
end Go.Proofs.Ythlfbpadakoamab
