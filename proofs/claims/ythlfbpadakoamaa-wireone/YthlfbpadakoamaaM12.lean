/- Pieces of the proof: YA, YT, YO. -/
import Derived.Test.YthlfbpadakoamaaM11
import Derived.Test.YthlfbpadakoamaaM10
/- The law's own answers that the document fixes: alive. -/
namespace Go.Proofs.Ythlfbpadakoamaa
open Go.RowKit

def rqT : ReqA := ⟨3, ByteArray.empty, ⟨#[116]⟩, 0, []⟩
theorem rqT_told : ReqT rqT [3, 1, 116] := ⟨3, [1, 116], rfl, rfl, .inr (.inr (.inl ⟨rfl, rfl, rfl, rfl, by decide, rfl⟩))⟩
def rpT : RepA := ⟨0, 0, [], ⟨4, 0, 15⟩⟩
theorem rpT_told : RepT rpT [0, 0, 0, 0, 0, 0, 0, 4, 15] :=
  ⟨0, [0], [0, 0, 0, 0], [0, 0], [], [4, 15], rfl, ⟨by decide, rfl⟩, ⟨0, 0, 0, 0, by decide, by decide, by decide, by decide, by decide, rfl, rfl⟩, ⟨by decide, rfl⟩, rfl, .inr ⟨4, 15, by decide, by decide, by decide, rfl, rfl⟩, rfl⟩
/- A request as DecodeRequest hands it out, whatever it is. -/
def AggQ (e : Ending) (n er : Int) : Prop := ∃ (k : Int) (sr tb : ByteArray) (m : Int) (ua : Option Addr) (ul uc : Nat), e = .returned (.tuple #[.agg #[.int .u8 k, .string sr, .string tb, .int .i64 m, .slice ua ul uc], .int .i64 n, .int .i64 er])
theorem dec_short {w w' : World} {xs : List Nat} {v : Value} {n er : Int} (h : DecA reqP ReqR w w' xs v n er) (hh : hd4 xs = none ∨ ∃ V ys, hd4 xs = some (V, ys) ∧ V ≤ 65536 ∧ ys.length < V) : n = 0 ∧ er = 9 := by
  obtain ⟨x, _, hx⟩ := h
  rcases hx with ⟨_, h1, h2⟩ | ⟨V, ys, e, hx⟩
  · exact ⟨h1, h2⟩
  · rcases hh with hh | ⟨V', ys', e', k1, k2⟩
    · rw [e] at hh; cases hh
    · rw [e] at e'
      simp only [Option.some.injEq, Prod.mk.injEq] at e'
      obtain ⟨rfl, rfl⟩ := e'
      rcases hx with ⟨k, _⟩ | ⟨_, _, h1, h2⟩ | ⟨_, k, _⟩
      · omega
      · exact ⟨h1, h2⟩
      · omega
theorem dec_agg {w w' : World} {xs : List Nat} {v : Value} {n er : Int} (h : DecA reqP ReqR w w' xs v n er) : AggQ (.returned (.tuple #[v, .int .i64 n, .int .i64 er])) n er := by
  obtain ⟨x, ⟨vu, rfl, hvu⟩, _⟩ := h
  obtain ⟨ua, uc, rfl⟩ := list_slice hvu
  exact ⟨_, _, _, _, _, _, _, rfl⟩
theorem req_ok3 : reqP [3, 1, 116] = some (⟨3, ByteArray.empty, ⟨#[116]⟩, 0, []⟩, []) := by rfl
theorem req_no3 : reqP [3, 2, 116] = none := by rfl
theorem dec3 (a : Option Addr) (w : World) (hr : RdA w a [0, 0, 0, 3, 3, 1, 116, 255]) : Calls Try.prog 5 #[.slice a 8 8] w fun e w' => (∃ (sr : ByteArray) (m : Int) (ua : Option Addr) (ul uc : Nat), e = .returned (.tuple #[.agg #[.int .u8 3, .string sr, .string ⟨#[116]⟩, .int .i64 m, .slice ua ul uc], .int .i64 7, .int .i64 0])) ∧ Below w.heap.size w w' :=
  (decRequest_any a 8 _ w hr (by decide) (by decide) (by decide)).mono (fun e w' ⟨⟨v, n, er, he, x, hv, hx⟩, hb⟩ => by
    refine ⟨?_, hb⟩
    rcases hx with ⟨h1, _⟩ | ⟨V, ys, e1, hx⟩
    · cases h1
    · have : V = 3 ∧ ys = [3, 1, 116, 255] := by
        have e2 : some (val4 0 0 0 3, [3, 1, 116, 255]) = some (V, ys) := e1
        simp only [Option.some.injEq, Prod.mk.injEq] at e2
        exact ⟨e2.1.symm, e2.2.symm⟩
      obtain ⟨rfl, rfl⟩ := this
      rcases hx with ⟨k, _⟩ | ⟨_, k, _⟩ | ⟨_, _, hn, hx⟩
      · omega
      · simp at k
      · rcases hx with ⟨rfl, hp⟩ | ⟨_, hp⟩
        · have hp' : reqP [3, 1, 116] = some (x, []) := hp
          rw [req_ok3] at hp'
          simp only [Option.some.injEq, Prod.mk.injEq, and_true] at hp'
          subst hp'
          obtain ⟨vu, rfl, hvu⟩ := hv
          obtain ⟨ua, uc, rfl⟩ := list_slice hvu
          subst hn
          exact ⟨_, _, _, _, _, he⟩
        · exact absurd req_ok3 (hp _))
theorem dec4 (a : Option Addr) (w : World) (hr : RdA w a [0, 0, 0, 3, 3, 2, 116]) : Calls Try.prog 5 #[.slice a 7 7] w fun e w' => AggQ e 7 8 ∧ Below w.heap.size w w' :=
  (decRequest_any a 7 _ w hr (by decide) (by decide) (by decide)).mono (fun e w' ⟨⟨v, n, er, he, hD⟩, hb⟩ => by
    refine ⟨?_, hb⟩
    have hA := dec_agg hD
    obtain ⟨x, hv, hx⟩ := hD
    rcases hx with ⟨h1, _⟩ | ⟨V, ys, e1, hx⟩
    · cases h1
    · have : V = 3 ∧ ys = [3, 2, 116] := by
        have e2 : some (val4 0 0 0 3, [3, 2, 116]) = some (V, ys) := e1
        simp only [Option.some.injEq, Prod.mk.injEq] at e2
        exact ⟨e2.1.symm, e2.2.symm⟩
      obtain ⟨rfl, rfl⟩ := this
      rcases hx with ⟨k, _⟩ | ⟨_, k, _⟩ | ⟨_, _, hn, hx⟩
      · omega
      · simp at k
      · rcases hx with ⟨_, hp⟩ | ⟨rfl, hp⟩
        · have hp' : reqP [3, 2, 116] = some (x, []) := hp
          rw [req_no3] at hp'
          cases hp'
        · subst hn
          rw [he]; exact hA)
theorem dec5 (a : Option Addr) (w : World) (hr : RdA w a [0, 1, 0, 1]) : Calls Try.prog 5 #[.slice a 4 4] w fun e w' => AggQ e 0 3 ∧ Below w.heap.size w w' :=
  (decRequest_any a 4 _ w hr (by decide) (by decide) (by decide)).mono (fun e w' ⟨⟨v, n, er, he, hD⟩, hb⟩ => by
    refine ⟨?_, hb⟩
    have hA := dec_agg hD
    obtain ⟨x, hv, hx⟩ := hD
    rcases hx with ⟨h1, _⟩ | ⟨V, ys, e1, hx⟩
    · cases h1
    · have : V = 65537 ∧ ys = [] := by
        have e2 : some (val4 0 1 0 1, []) = some (V, ys) := e1
        simp only [Option.some.injEq, Prod.mk.injEq] at e2
        exact ⟨e2.1.symm, e2.2.symm⟩
      obtain ⟨rfl, rfl⟩ := this
      rcases hx with ⟨_, rfl, rfl⟩ | ⟨k, _⟩ | ⟨k, _⟩
      · rw [he]; exact hA
      · omega
      · omega)
theorem dec6 (a : Option Addr) (w : World) (hr : RdA w a [0, 0, 0, 3, 3, 1]) : Calls Try.prog 5 #[.slice a 6 6] w fun e w' => AggQ e 0 9 ∧ Below w.heap.size w w' :=
  (decRequest_any a 6 _ w hr (by decide) (by decide) (by decide)).mono (fun e w' ⟨⟨v, n, er, he, hD⟩, hb⟩ => by
    have hA := dec_agg hD
    obtain ⟨rfl, rfl⟩ := dec_short hD (.inr ⟨3, [3, 1], rfl, by decide, by decide⟩)
    exact ⟨by rw [he]; exact hA, hb⟩)
theorem below_lit {X w' : World} {o : Obj} (h : Below (X.alloc o).heap.size (X.alloc o) w') : Below X.heap.size X w' := ((Below.refl _ X).alloc (Nat.le_refl _) o).trans (h.mono (by simp))
def b7 : List Nat := [0, 0, 0, 3, 3, 1, 116]
def b13 : List Nat := [0, 0, 0, 9, 0, 0, 0, 0, 0, 0, 0, 4, 15]
theorem dec3L (X : World) (N : Nat) (hN : N = X.heap.size) : Calls Try.prog 5 #[.slice (some ⟨N, 0, none⟩) 8 8] (X.alloc (.cells #[.int .u8 0, .int .u8 0, .int .u8 0, .int .u8 3, .int .u8 3, .int .u8 1, .int .u8 116, .int .u8 255] 5)) fun e w' => (∃ (sr : ByteArray) (m : Int) (ua : Option Addr) (ul uc : Nat), e = .returned (.tuple #[.agg #[.int .u8 3, .string sr, .string ⟨#[116]⟩, .int .i64 m, .slice ua ul uc], .int .i64 7, .int .i64 0])) ∧ Below X.heap.size X w' :=
  by subst hN; exact (dec3 _ _ (lit_rd X [0, 0, 0, 3, 3, 1, 116, 255] _ _ rfl)).mono (fun e w' h => ⟨h.1, below_lit h.2⟩)
theorem dec4L (X : World) (N : Nat) (hN : N = X.heap.size) : Calls Try.prog 5 #[.slice (some ⟨N, 0, none⟩) 7 7] (X.alloc (.cells #[.int .u8 0, .int .u8 0, .int .u8 0, .int .u8 3, .int .u8 3, .int .u8 2, .int .u8 116] 5)) fun e w' => AggQ e 7 8 ∧ Below X.heap.size X w' :=
  by subst hN; exact (dec4 _ _ (lit_rd X [0, 0, 0, 3, 3, 2, 116] _ _ rfl)).mono (fun e w' h => ⟨h.1, below_lit h.2⟩)
theorem dec5L (X : World) (N : Nat) (hN : N = X.heap.size) : Calls Try.prog 5 #[.slice (some ⟨N, 0, none⟩) 4 4] (X.alloc (.cells #[.int .u8 0, .int .u8 1, .int .u8 0, .int .u8 1] 5)) fun e w' => AggQ e 0 3 ∧ Below X.heap.size X w' :=
  by subst hN; exact (dec5 _ _ (lit_rd X [0, 1, 0, 1] _ _ rfl)).mono (fun e w' h => ⟨h.1, below_lit h.2⟩)
theorem dec6L (X : World) (N : Nat) (hN : N = X.heap.size) : Calls Try.prog 5 #[.slice (some ⟨N, 0, none⟩) 6 6] (X.alloc (.cells #[.int .u8 0, .int .u8 0, .int .u8 0, .int .u8 3, .int .u8 3, .int .u8 1] 5)) fun e w' => AggQ e 0 9 ∧ Below X.heap.size X w' :=
  by subst hN; exact (dec6 _ _ (lit_rd X [0, 0, 0, 3, 3, 1] _ _ rfl)).mono (fun e w' h => ⟨h.1, below_lit h.2⟩)
theorem same_b7 (X : World) (N : Nat) (hN : N = X.heap.size) (a : Option Addr) (c : Nat) (h : RdA X a b7) : Calls Try.prog 7 #[.slice a 7 c, .slice (some ⟨N, 0, none⟩) 7 7] (X.alloc (.cells #[.int .u8 0, .int .u8 0, .int .u8 0, .int .u8 3, .int .u8 3, .int .u8 1, .int .u8 116] 5)) fun e w' => e = .returned (.bool true) ∧ Below X.heap.size X w' :=
  by subst hN; exact (same_rd b7 (by decide) a _ c _ _ (h.below ((Below.refl _ _).alloc (Nat.le_refl _) _)) (lit_rd X b7 _ _ rfl)).mono (fun e w' h => ⟨h.1, below_lit h.2⟩)
theorem same_b13 (X : World) (N : Nat) (hN : N = X.heap.size) (a : Option Addr) (c : Nat) (h : RdA X a b13) : Calls Try.prog 7 #[.slice a 13 c, .slice (some ⟨N, 0, none⟩) 13 13] (X.alloc (.cells #[.int .u8 0, .int .u8 0, .int .u8 0, .int .u8 9, .int .u8 0, .int .u8 0, .int .u8 0, .int .u8 0, .int .u8 0, .int .u8 0, .int .u8 0, .int .u8 4, .int .u8 15] 5)) fun e w' => e = .returned (.bool true) ∧ Below X.heap.size X w' :=
  by subst hN; exact (same_rd b13 (by decide) a _ c _ _ (h.below ((Below.refl _ _).alloc (Nat.le_refl _) _)) (lit_rd X b13 _ _ rfl)).mono (fun e w' h => ⟨h.1, below_lit h.2⟩)
set_option maxRecDepth 100000 in
set_option maxHeartbeats 8000000 in
theorem alive_any (w : World) : Calls Try.prog 4 #[] w fun e w' => e = .returned (.bool true) ∧ Below w.heap.size w w' := by
  have HE1 : Hid (∀ W : World, Calls Try.prog 6 #[.agg #[.int .u8 3, .string ⟨#[]⟩, .string ⟨#[116]⟩, .int .i64 0, .slice none 0 0]] W fun e w' => ∃ v, e = .returned (.tuple #[v, .int .i64 0]) ∧ Own8 w' W.heap.size v b7 ∧ Below W.heap.size W w') := hide (fun W => encRequest_yes W _ rqT [3, 1, 116] ⟨_, rfl, list_nil _ _ _ _ _⟩ rqT_told (by decide))
  have HE2 := hide encRequest_bad
  have HE7 : Hid (∀ W : World, Calls Try.prog 9 #[.agg #[.int .i64 0, .int .i64 0, .slice none 0 0, .int .i64 4, .int .u64 0, .int .u64 15]] W fun e w' => ∃ v, e = .returned (.tuple #[v, .int .i64 0]) ∧ Own8 w' W.heap.size v b13 ∧ Below W.heap.size W w') := hide (fun W => encReply_yes W _ rpT [0, 0, 0, 0, 0, 0, 0, 4, 15] ⟨_, rfl, list_nil _ _ _ _ _⟩ rpT_told (by decide))
  go_enter Try.func4, Try.ntmps4
  go_wp2_with fail
  refine (HE1.out _).mono ?_
  rintro e w1 ⟨v1, rfl, ho1, hb1⟩
  obtain ⟨sa, sc, hv1, _, _, _⟩ := ho1.shape
  rw [show b7.length = 7 from rfl] at hv1
  subst hv1
  have RB := hide (ho1.rd).2
  have B1 := hide hb1
  clear ho1 hb1
  go_wp2_with fail
  refine (HE2.out _).mono ?_
  rintro e w2 ⟨rfl, hb2⟩
  have RB2 := hide (RB.out.below hb2)
  have B2 := hide (B1.out.trans (hb2.mono B1.out.size))
  clear hb2 RB B1
  go_wp2_with fail
  refine (dec3L w2 _ rfl).mono ?_
  rintro e w3 ⟨⟨sr, m, ua, ul, uc, rfl⟩, hb3⟩
  have hb3' := hb3
  have RB3 := hide (RB2.out.below hb3')
  have B3 := hide (B2.out.trans (hb3'.mono B2.out.size))
  have HR3 := hide (heap_alloc_new w3 (.cells #[.int .u8 3, .string sr, .string ⟨#[116]⟩, .int .i64 m, .slice ua ul uc] 27))
  have RB3a := hide (RB3.out.below ((Below.refl _ w3).alloc (Nat.le_refl _) (.cells #[.int .u8 3, .string sr, .string ⟨#[116]⟩, .int .i64 m, .slice ua ul uc] 27)))
  have B3a := hide (B3.out.alloc B3.out.size (.cells #[.int .u8 3, .string sr, .string ⟨#[116]⟩, .int .i64 m, .slice ua ul uc] 27))
  clear hb3 hb3' RB2 B2 RB3 B3
  go_wp2_with fail
  refine (dec4L _ _ (by simp)).mono ?_
  rintro e w4 ⟨⟨k4, sr4, tb4, m4, ua4, ul4, uc4, rfl⟩, hb4⟩
  have hb4' := hb4
  have RB4 := hide (RB3a.out.below hb4')
  have B4 := hide (B3a.out.trans (hb4'.mono B3a.out.size))
  have HR4 := hide ((hb4'.block _ (lt_of_heap HR3.out)).trans HR3.out)
  have RB4a := hide (RB4.out.below ((Below.refl _ w4).alloc (Nat.le_refl _) (.cells #[.int .u8 k4, .string sr4, .string tb4, .int .i64 m4, .slice ua4 ul4 uc4] 27)))
  have B4a := hide (B4.out.alloc B4.out.size (.cells #[.int .u8 k4, .string sr4, .string tb4, .int .i64 m4, .slice ua4 ul4 uc4] 27))
  have HR4a := hide ((Below.heap_alloc w4 (.cells #[.int .u8 k4, .string sr4, .string tb4, .int .i64 m4, .slice ua4 ul4 uc4] 27) _ (lt_of_heap HR4.out)).trans HR4.out)
  clear hb4 hb4' RB3a B3a RB4 B4 HR3 HR4
  go_wp2_with fail
  refine (dec5L _ _ (by simp)).mono ?_
  rintro e w5 ⟨⟨k5, sr5, tb5, m5, ua5, ul5, uc5, rfl⟩, hb5⟩
  have hb5' := hb5
  have RB5 := hide (RB4a.out.below hb5')
  have B5 := hide (B4a.out.trans (hb5'.mono B4a.out.size))
  have HR5 := hide ((hb5'.block _ (lt_of_heap HR4a.out)).trans HR4a.out)
  have RB5a := hide (RB5.out.below ((Below.refl _ w5).alloc (Nat.le_refl _) (.cells #[.int .u8 k5, .string sr5, .string tb5, .int .i64 m5, .slice ua5 ul5 uc5] 27)))
  have B5a := hide (B5.out.alloc B5.out.size (.cells #[.int .u8 k5, .string sr5, .string tb5, .int .i64 m5, .slice ua5 ul5 uc5] 27))
  have HR5a := hide ((Below.heap_alloc w5 (.cells #[.int .u8 k5, .string sr5, .string tb5, .int .i64 m5, .slice ua5 ul5 uc5] 27) _ (lt_of_heap HR5.out)).trans HR5.out)
  clear hb5 hb5' RB4a B4a RB5 B5 HR4a HR5
  go_wp2_with fail
  refine (dec6L _ _ (by simp)).mono ?_
  rintro e w6 ⟨⟨k6, sr6, tb6, m6, ua6, ul6, uc6, rfl⟩, hb6⟩
  have hb6' := hb6
  have RB6 := hide (RB5a.out.below hb6')
  have B6 := hide (B5a.out.trans (hb6'.mono B5a.out.size))
  have HR6 := hide ((hb6'.block _ (lt_of_heap HR5a.out)).trans HR5a.out)
  have RB6a := hide (RB6.out.below ((Below.refl _ w6).alloc (Nat.le_refl _) (.cells #[.int .u8 k6, .string sr6, .string tb6, .int .i64 m6, .slice ua6 ul6 uc6] 27)))
  have B6a := hide (B6.out.alloc B6.out.size (.cells #[.int .u8 k6, .string sr6, .string tb6, .int .i64 m6, .slice ua6 ul6 uc6] 27))
  have HR6a := hide ((Below.heap_alloc w6 (.cells #[.int .u8 k6, .string sr6, .string tb6, .int .i64 m6, .slice ua6 ul6 uc6] 27) _ (lt_of_heap HR6.out)).trans HR6.out)
  clear hb6 hb6' RB5a B5a RB6 B6 HR5a HR6
  go_wp2_with fail
  refine (HE7.out _).mono ?_
  rintro e w7 ⟨v7, rfl, ho7, hb7⟩
  obtain ⟨sa7, sc7, hv7, _, _, _⟩ := ho7.shape
  rw [show b13.length = 13 from rfl] at hv7
  subst hv7
  have RC7 := hide (ho7.rd).2
  have RB7 := hide (RB6a.out.below hb7)
  have B7 := hide (B6a.out.trans (hb7.mono B6a.out.size))
  obtain ⟨a0, a1, a2, a3, a4, _⟩ := cells5 ((hb7.block _ (lt_of_heap HR6a.out)).trans HR6a.out)
  clear ho7 hb7 RB6a B6a HR6a
  go_wp2_with fail
  refine (same_b7 w7 _ rfl _ _ RB7.out).mono ?_
  rintro e w8 ⟨rfl, hb8⟩
  have hb8' := hb8
  have RC8 := hide (RC7.out.below hb8')
  have B8 := hide (B7.out.trans (hb8'.mono B7.out.size))
  clear hb8 hb8' RC7 B7 RB7 a0 a1 a2 a3 a4
  go_wp2_with fail
  refine (same_b13 w8 _ rfl _ _ RC8.out).mono ?_
  rintro e w9 ⟨rfl, hb9⟩
  have B9 := hide (B8.out.trans (hb9.mono B8.out.size))
  clear hb9
  go_wp2
  go_ret
  exact ⟨rfl, B9.out⟩
end Go.Proofs.Ythlfbpadakoamaa
/- What is read was told so (no program). -/
namespace Go.Proofs.Ythlfbpadakoamaa
open Go.RowKit

def TellsP {α : Type} (pf : Ps α) (T : α → List Nat → Prop) : Prop := ∀ (xs : List Nat) (x : α) (ys : List Nat), xs.length ≤ 1000000000 → (∀ b ∈ xs, b < 256) → pf xs = some (x, ys) → ∃ t, T x t ∧ xs = t ++ ys
theorem rest_ok {xs t ys : List Nat} (h : xs = t ++ ys) (hl : xs.length ≤ 1000000000) (hb : ∀ b ∈ xs, b < 256) : ys.length ≤ 1000000000 ∧ (∀ b ∈ ys, b < 256) ∧ (∀ b ∈ t, b < 256) := by
  subst h
  exact ⟨by simp at hl; omega, fun b h => hb b (by simp [h]), fun b h => hb b (by simp [h])⟩
theorem byte_told {xs ys : List Nat} {n : Nat} (hb : ∀ b ∈ xs, b < 256) (h : byteP xs = some (n, ys)) : ByteT n [n] ∧ xs = [n] ++ ys := by
  cases xs with
  | nil => cases h
  | cons a l =>
    simp only [byteP, Option.some.injEq, Prod.mk.injEq] at h
    obtain ⟨rfl, rfl⟩ := h
    exact ⟨⟨hb a (by simp), rfl⟩, rfl⟩
theorem whole_told : TellsP wholeP WholeT := fun xs x ys hl hb h => by
  clear hl
  unfold wholeP at h
  split at h
  · rename_i x0 x1 x2 x3 zs
    split at h
    · rename_i hv
      simp only [Option.some.injEq, Prod.mk.injEq] at h
      obtain ⟨rfl, rfl⟩ := h
      exact ⟨[x0, x1, x2, x3], ⟨x0, x1, x2, x3, hb _ (by simp), hb _ (by simp), hb _ (by simp), hb _ (by simp), hv, rfl, rfl⟩, rfl⟩
    · cases h
  · cases h
theorem name_told : TellsP nameP NameT := fun xs x ys _ hb h => by
  cases xs with
  | nil => cases h
  | cons n zs =>
    unfold nameP at h
    simp only at h
    split at h
    · rename_i hn
      simp only [Option.some.injEq, Prod.mk.injEq] at h
      obtain ⟨rfl, rfl⟩ := h
      have h256 : ∀ b ∈ zs.take n, b < 256 := fun b hm => hb b (List.mem_cons_of_mem _ (List.mem_of_mem_take hm))
      have hs : (strOf (zs.take n)).size = n := by rw [strOf_size h256]; simp; omega
      refine ⟨n :: zs.take n, ⟨by rw [hs]; have := hb n (by simp); omega, by rw [hs, byts_strOf h256]⟩, ?_⟩
      rw [List.cons_append, List.take_append_drop]
    · cases h
theorem byteAt_snoc (u x N j : Nat) (hj : j < N) (hx : x < 256) : byteAt (u * 256 + x) (N + 1) j = byteAt u N j := by
  unfold byteAt
  have e : 8 * (N + 1 - 1 - j) = 8 + 8 * (N - 1 - j) := by omega
  rw [e, Nat.pow_add, ← Nat.div_div_eq_div_mul]
  have : (u * 256 + x) / 2 ^ 8 = u := by omega
  rw [this]
theorem bytesOf_bv : ∀ (n : Nat) (l : List Nat), l.length = n → (∀ b ∈ l, b < 256) → bytesOf (bv l) n = l
  | 0, l, h, _ => by obtain rfl : l = [] := List.length_eq_zero_iff.1 h; rfl
  | n + 1, l, h, hb => by
    rcases List.eq_nil_or_concat l with rfl | ⟨ys, x, rfl⟩
    · simp at h
    · rw [List.concat_eq_append] at h hb ⊢
      have h1 : ys.length = n := by simp at h; omega
      have hx := hb x (by simp)
      have ih := bytesOf_bv n ys h1 (fun b hm => hb b (by simp [hm]))
      rw [bv_snoc]
      unfold bytesOf at ih ⊢
      rw [List.range_succ, List.map_append, List.map_singleton]
      have e1 : (List.range n).map (byteAt (bv ys * 256 + x) (n + 1)) = (List.range n).map (byteAt (bv ys) n) := List.map_congr_left (fun j hj => byteAt_snoc _ _ _ _ (List.mem_range.1 hj) hx)
      have e2 : byteAt (bv ys * 256 + x) (n + 1) n = x := by
        unfold byteAt
        rw [show 8 * (n + 1 - 1 - n) = 0 by omega, Nat.pow_zero, Nat.div_one]
        omega
      rw [e1, e2, ih]
theorem num_told : TellsP numP NumT := fun xs x ys _ hb h => by
  cases xs with
  | nil => cases h
  | cons n zs =>
    simp only [numP] at h
    split at h
    · rename_i hn
      simp only [Option.some.injEq, Prod.mk.injEq] at h
      obtain ⟨rfl, rfl⟩ := h
      exact ⟨[0], .inl ⟨rfl, rfl⟩, by rw [hn]; rfl⟩
    · rename_i hn
      split at h
      · rename_i hk
        simp only [Option.some.injEq, Prod.mk.injEq] at h
        obtain ⟨rfl, rfl⟩ := h
        obtain ⟨k1, k2, k3⟩ := hk
        refine ⟨n :: zs.take ((n + 7) / 8), .inr ⟨n, bv (zs.take ((n + 7) / 8)), by omega, k1, k3, rfl, ?_⟩, ?_⟩
        · rw [bytesOf_bv _ _ (by simp; omega) (fun b hm => hb b (List.mem_cons_of_mem _ (List.mem_of_mem_take hm)))]
        · rw [List.cons_append, List.take_append_drop]
      · cases h
theorem match_told : TellsP matchP MatchT := fun xs x ys hl hb h => by
  simp only [matchP, Option.bind_eq_some_iff] at h
  obtain ⟨⟨v, y1⟩, h1, ⟨m, y2⟩, h2, ⟨l, y3⟩, h3, h4⟩ := h
  simp only [Option.some.injEq, Prod.mk.injEq] at h4
  obtain ⟨rfl, rfl⟩ := h4
  obtain ⟨ta, hA, e1⟩ := num_told xs _ _ hl hb h1
  obtain ⟨l1, b1, _⟩ := rest_ok e1 hl hb
  obtain ⟨tb, hB, e2⟩ := num_told y1 _ _ l1 b1 h2
  obtain ⟨l2, b2, _⟩ := rest_ok e2 l1 b1
  obtain ⟨tc, hC, e3⟩ := whole_told y2 _ _ l2 b2 h3
  exact ⟨ta ++ tb ++ tc, ⟨ta, tb, tc, hA, hB, hC, rfl⟩, by rw [e1, e2, e3]; simp only [List.append_assoc]⟩
theorem many_snoc {α : Type} {T : α → List Nat → Prop} : ∀ {l : List α} {t : List Nat} {x : α} {a : List Nat}, ManyT T l t → T x a → ManyT T (l ++ [x]) (t ++ a)
  | [], t, x, a, h, hx => by
    have e : t = [] := h
    subst e
    exact ⟨a, [], hx, rfl, by simp⟩
  | y :: l, t, x, a, h, hx => by
    obtain ⟨b, c, h1, h2, rfl⟩ := h
    exact ⟨b, c ++ a, h1, many_snoc h2 hx, by rw [List.append_assoc]⟩
theorem many_told {α : Type} {f : Ps α} {T : α → List Nat → Prop} (hf : TellsP f T) : ∀ n, TellsP (manyP f n) (ManyT T)
  | 0, xs, l, ys, _, _, h => by
    simp only [manyP, Option.some.injEq, Prod.mk.injEq] at h
    obtain ⟨rfl, rfl⟩ := h
    exact ⟨[], rfl, rfl⟩
  | n + 1, xs, l, ys, hl, hb, h => by
    simp only [manyP, Option.bind_eq_some_iff] at h
    obtain ⟨⟨l1, y1⟩, h1, ⟨x, y2⟩, h2, h3⟩ := h
    simp only [Option.some.injEq, Prod.mk.injEq] at h3
    obtain ⟨rfl, rfl⟩ := h3
    obtain ⟨t1, hT1, e1⟩ := many_told hf n xs _ _ hl hb h1
    obtain ⟨k1, k2, _⟩ := rest_ok e1 hl hb
    obtain ⟨t2, hT2, e2⟩ := hf y1 _ _ k1 k2 h2
    exact ⟨t1 ++ t2, many_snoc hT1 hT2, by rw [e1, e2, List.append_assoc]⟩
/- A list behind the byte that tells how many. -/
theorem list_told {α : Type} {f : Ps α} {T : α → List Nat → Prop} (hf : TellsP f T) {xs ys : List Nat} {l : List α} (hl : xs.length ≤ 1000000000) (hb : ∀ b ∈ xs, b < 256) (h : listP f xs = some (l, ys)) : ∃ s t, ByteT l.length s ∧ ManyT T l t ∧ xs = (s ++ t) ++ ys := by
  simp only [listP, Option.bind_eq_some_iff] at h
  obtain ⟨⟨n, y1⟩, h1, h2⟩ := h
  obtain ⟨hB, e1⟩ := byte_told hb h1
  obtain ⟨k1, k2, _⟩ := rest_ok e1 hl hb
  obtain ⟨t, hT, e2⟩ := many_told hf n y1 _ _ k1 k2 h2
  rw [← many_length n h2] at hB e1
  exact ⟨_, t, hB, hT, by rw [e1, e2, List.append_assoc]⟩
theorem action_told {xs ys : List Nat} {x : EntryA} (hl : xs.length ≤ 1000000000) (hb : ∀ b ∈ xs, b < 256) (h : actionP xs = some (x, ys)) : x.ms = [] ∧ x.prio = 0 ∧ ∃ t, ActT x.act x.args t ∧ xs = t ++ ys := by
  simp only [actionP, Option.bind_eq_some_iff] at h
  obtain ⟨⟨a, y1⟩, h1, ⟨l, y2⟩, h2, h3⟩ := h
  simp only [Option.some.injEq, Prod.mk.injEq] at h3
  obtain ⟨rfl, rfl⟩ := h3
  obtain ⟨ta, hA, e1⟩ := name_told xs _ _ hl hb h1
  obtain ⟨k1, k2, _⟩ := rest_ok e1 hl hb
  obtain ⟨s, t, hS, hT, e2⟩ := list_told num_told k1 k2 h2
  exact ⟨rfl, rfl, _, ⟨ta, s, t, hA, hS, hT, rfl⟩, by rw [e1, e2]; simp only [List.append_assoc]⟩
theorem entry_told : TellsP entryP EntryT := fun xs x ys hl hb h => by
  simp only [entryP, Option.bind_eq_some_iff] at h
  obtain ⟨⟨ms, y1⟩, h1, ⟨p, y2⟩, h2, ⟨e, y3⟩, h3, h4⟩ := h
  simp only [Option.some.injEq, Prod.mk.injEq] at h4
  obtain ⟨rfl, rfl⟩ := h4
  obtain ⟨s, ta, hS, hA, e1⟩ := list_told match_told hl hb h1
  obtain ⟨l1, b1, _⟩ := rest_ok e1 hl hb
  obtain ⟨tb, hB, e2⟩ := whole_told y1 _ _ l1 b1 h2
  obtain ⟨l2, b2, _⟩ := rest_ok e2 l1 b1
  obtain ⟨_, _, tc, hC, e3⟩ := action_told l2 b2 h3
  exact ⟨_, ⟨s, ta, tb, tc, hS, hA, hB, hC, rfl⟩, by rw [e1, e2, e3]; simp only [List.append_assoc]⟩
theorem change_told : TellsP changeP ChangeT := fun xs x ys hl hb h => by
  simp only [changeP, Option.bind_eq_some_iff] at h
  obtain ⟨⟨a, y1⟩, h1, ⟨l, y2⟩, h2, h3⟩ := h
  simp only [Option.some.injEq, Prod.mk.injEq] at h3
  obtain ⟨rfl, rfl⟩ := h3
  obtain ⟨ta, hA, e1⟩ := name_told xs _ _ hl hb h1
  obtain ⟨k1, k2, _⟩ := rest_ok e1 hl hb
  obtain ⟨t, hT, e2⟩ := entry_told y1 _ _ k1 k2 h2
  exact ⟨_, ⟨rfl, rfl, ta, t, hA, hT, rfl⟩, by rw [e1, e2, List.append_assoc]⟩
theorem other_told : TellsP otherP OtherT := fun xs x ys hl hb h => by
  simp only [otherP, Option.bind_eq_some_iff] at h
  obtain ⟨⟨a, y1⟩, h1, ⟨l, y2⟩, h2, h3⟩ := h
  simp only [Option.some.injEq, Prod.mk.injEq] at h3
  obtain ⟨rfl, rfl⟩ := h3
  obtain ⟨ta, hA, e1⟩ := name_told xs _ _ hl hb h1
  obtain ⟨k1, k2, _⟩ := rest_ok e1 hl hb
  obtain ⟨m1, m2, t, hT, e2⟩ := action_told k1 k2 h2
  exact ⟨_, ⟨rfl, rfl, m1, m2, ta, t, hA, hT, rfl⟩, by rw [e1, e2, List.append_assoc]⟩
theorem group_told : TellsP groupP GroupT := fun xs x ys hl hb h => by
  simp only [groupP, Option.bind_eq_some_iff] at h
  obtain ⟨⟨n, y1⟩, h1, ⟨l, y2⟩, h2, h3⟩ := h
  simp only [Option.some.injEq, Prod.mk.injEq] at h3
  obtain ⟨rfl, rfl⟩ := h3
  obtain ⟨ta, hA, e1⟩ := whole_told xs _ _ hl hb h1
  obtain ⟨k1, k2, _⟩ := rest_ok e1 hl hb
  obtain ⟨s, t, hS, hT, e2⟩ := list_told whole_told k1 k2 h2
  exact ⟨_, ⟨rfl, rfl, rfl, rfl, rfl, ta, s, t, hA, hS, hT, rfl⟩, by rw [e1, e2]; simp only [List.append_assoc]⟩
theorem updKT_kind {k : Nat} {x : UpdA} {t : List Nat} {i : Int} (h : updKT k x t) : updKT k { x with kind := i } t := h
theorem upd_told : TellsP updP UpdT := fun xs x ys hl hb h => by
  simp only [updP, Option.bind_eq_some_iff] at h
  obtain ⟨⟨k, y1⟩, h1, ⟨u, y2⟩, h2, h3⟩ := h
  simp only [Option.some.injEq, Prod.mk.injEq] at h3
  obtain ⟨rfl, rfl⟩ := h3
  obtain ⟨_, e1⟩ := byte_told hb h1
  obtain ⟨k1, k2, _⟩ := rest_ok e1 hl hb
  have key : ∃ t, updKT k u t ∧ y1 = t ++ y2 := by
    unfold updK at h2
    split at h2
    · rename_i hk
      obtain ⟨t, hT, e⟩ := change_told y1 _ _ k1 k2 h2
      exact ⟨t, .inl ⟨hk, hT⟩, e⟩
    · split at h2
      · rename_i hk
        obtain ⟨t, hT, e⟩ := other_told y1 _ _ k1 k2 h2
        exact ⟨t, .inr (.inl ⟨hk, hT⟩), e⟩
      · split at h2
        · rename_i hk
          obtain ⟨t, hT, e⟩ := group_told y1 _ _ k1 k2 h2
          exact ⟨t, .inr (.inr ⟨hk, hT⟩), e⟩
        · cases h2
  obtain ⟨t, hT, e2⟩ := key
  exact ⟨k :: t, ⟨k, t, rfl, rfl, updKT_kind hT⟩, by rw [e1, e2]; rfl⟩
theorem req_told : TellsP reqP ReqT := fun xs x ys hl hb h => by
  simp only [reqP, Option.bind_eq_some_iff] at h
  obtain ⟨⟨k, y1⟩, h1, ⟨u, y2⟩, h2, h3⟩ := h
  simp only [Option.some.injEq, Prod.mk.injEq] at h3
  obtain ⟨rfl, rfl⟩ := h3
  obtain ⟨_, e1⟩ := byte_told hb h1
  obtain ⟨k1, k2, _⟩ := rest_ok e1 hl hb
  have key : ∃ t, reqKT k u t ∧ y1 = t ++ y2 := by
    unfold reqK at h2
    split at h2
    · rename_i hk
      simp only [installP, Option.some.injEq, Prod.mk.injEq] at h2
      obtain ⟨rfl, rfl⟩ := h2
      exact ⟨y1, .inl ⟨hk, rfl, rfl, rfl, by rw [strOf_size k2]; exact k1, (byts_strOf k2).symm⟩, by simp⟩
    · split at h2
      · rename_i hk
        simp only [writeP, Option.bind_eq_some_iff] at h2
        obtain ⟨⟨n, z1⟩, g1, g2⟩ := h2
        split at g2
        · rename_i hn
          simp only [Option.bind_eq_some_iff] at g2
          obtain ⟨⟨l, z2⟩, g2, g3⟩ := g2
          simp only [Option.some.injEq, Prod.mk.injEq] at g3
          obtain ⟨rfl, rfl⟩ := g3
          obtain ⟨_, f1⟩ := byte_told k2 g1
          obtain ⟨j1, j2, _⟩ := rest_ok f1 k1 k2
          obtain ⟨t, hT, f2⟩ := many_told upd_told n z1 _ _ j1 j2 g2
          have hlen := many_length n g2
          exact ⟨[n] ++ t, .inr (.inl ⟨hk, rfl, rfl, rfl, [n], t, ⟨by rw [hlen]; exact hn, by rw [hlen]⟩, hT, rfl⟩), by rw [f1, f2, List.append_assoc]⟩
        · cases g2
      · split at h2
        · rename_i hk
          simp only [readP, Option.bind_eq_some_iff] at h2
          obtain ⟨⟨a, z1⟩, g1, g2⟩ := h2
          simp only [Option.some.injEq, Prod.mk.injEq] at g2
          obtain ⟨rfl, rfl⟩ := g2
          obtain ⟨t, hT, f1⟩ := name_told y1 _ _ k1 k2 g1
          exact ⟨t, .inr (.inr (.inl ⟨hk, rfl, rfl, rfl, hT⟩)), f1⟩
        · split at h2
          · rename_i hk
            simp only [cellsP, readP, Option.bind_eq_some_iff] at h2
            obtain ⟨⟨r, z1⟩, ⟨⟨a, z0⟩, g0, g1⟩, ⟨n, z2⟩, g2, g3⟩ := h2
            simp only [Option.some.injEq, Prod.mk.injEq] at g1 g3
            obtain ⟨rfl, rfl⟩ := g1
            obtain ⟨rfl, rfl⟩ := g3
            obtain ⟨t, hT, f1⟩ := name_told y1 _ _ k1 k2 g0
            obtain ⟨j1, j2, _⟩ := rest_ok f1 k1 k2
            obtain ⟨s, hS, f2⟩ := whole_told _ _ _ j1 j2 g2
            exact ⟨t ++ s, .inr (.inr (.inr ⟨hk, rfl, rfl, t, s, hT, hS, rfl⟩)), by rw [f1, f2, List.append_assoc]⟩
          · cases h2
  obtain ⟨t, hT, e2⟩ := key
  exact ⟨k :: t, ⟨k, t, rfl, rfl, hT⟩, by rw [e1, e2]; rfl⟩
theorem rep_told : TellsP repP RepT := fun xs x ys hl hb h => by
  simp only [repP, Option.bind_eq_some_iff] at h
  obtain ⟨⟨e, y1⟩, h1, ⟨a, y2⟩, h2, ⟨n, y3⟩, h3, ⟨l, y4⟩, h4, ⟨v, y5⟩, h5, h6⟩ := h
  simp only [Option.some.injEq, Prod.mk.injEq] at h6
  obtain ⟨rfl, rfl⟩ := h6
  obtain ⟨hE, e1⟩ := byte_told hb h1
  obtain ⟨l1, b1, _⟩ := rest_ok e1 hl hb
  obtain ⟨ta, hA, e2⟩ := whole_told y1 _ _ l1 b1 h2
  obtain ⟨l2, b2, _⟩ := rest_ok e2 l1 b1
  have key : LongT n [n / 256, n % 256] ∧ y2 = [n / 256, n % 256] ++ y3 := by
    match y2, h3, b2 with
    | p :: q :: r, h3, b2 =>
      simp only [longP, Option.some.injEq, Prod.mk.injEq] at h3
      obtain ⟨rfl, rfl⟩ := h3
      have hp := b2 p (by simp); have hq := b2 q (by simp)
      have d1 : (p * 256 + q) / 256 = p := by omega
      have d2 : (p * 256 + q) % 256 = q := by omega
      exact ⟨⟨by omega, rfl⟩, by rw [d1, d2]; rfl⟩
  obtain ⟨hN, e3⟩ := key
  obtain ⟨l3, b3, _⟩ := rest_ok e3 l2 b2
  obtain ⟨tc, hC, e4⟩ := many_told entry_told n y3 _ _ l3 b3 h4
  obtain ⟨l4, b4, _⟩ := rest_ok e4 l3 b3
  obtain ⟨td, hD, e5⟩ := num_told y4 _ _ l4 b4 h5
  refine ⟨_, ⟨e, [e], ta, [n / 256, n % 256], tc, td, rfl, hE, hA, by rw [many_length n h4]; exact hN, hC, hD, rfl⟩, ?_⟩
  rw [e1, e2, e3, e4, e5]
  simp only [List.append_assoc]
end Go.Proofs.Ythlfbpadakoamaa
/- WireOne's walk. -/
namespace Go.Proofs.Ythlfbpadakoamaa
open Go.RowKit

theorem rdA_take {W : World} {a : Option Addr} {xs : List Nat} (h : RdA W a xs) (k : Nat) : RdA W a (xs.take k) := by
  rcases h with rfl | ⟨p, off, rfl, hp, hc⟩
  · exact .inl (by simp)
  · exact .inr ⟨p, off, rfl, hp, fun i hi => by have h2 : i < xs.length := (by simp at hi; omega); rw [hc i h2]; simp⟩
theorem hd4_len {xs : List Nat} {V : Nat} {ys : List Nat} (h : hd4 xs = some (V, ys)) : xs.length = ys.length + 4 := by
  match xs, h with
  | x0 :: x1 :: x2 :: x3 :: zs, h =>
    simp only [hd4, Option.some.injEq, Prod.mk.injEq] at h
    obtain ⟨_, rfl⟩ := h
    rfl
/- A frame's bytes are its body's, behind how many they are. -/
theorem hd4_frame {xs : List Nat} {V : Nat} {ys : List Nat} (h : hd4 xs = some (V, ys)) (hb : ∀ x ∈ xs, x < 256) (hV : V ≤ ys.length) : fr4 (ys.take V).length ++ ys.take V = xs.take (V + 4) := by
  match xs, h, hb with
  | x0 :: x1 :: x2 :: x3 :: zs, h, hb =>
    simp only [hd4, Option.some.injEq, Prod.mk.injEq] at h
    obtain ⟨rfl, rfl⟩ := h
    have e : (zs.take (val4 x0 x1 x2 x3)).length = val4 x0 x1 x2 x3 := by simp; omega
    obtain ⟨e0, e1, e2, e3⟩ := val4_at x0 x1 x2 x3 (hb _ (by simp)) (hb _ (by simp)) (hb _ (by simp)) (hb _ (by simp))
    rw [e]
    unfold fr4
    rw [e0, e1, e2, e3]
    rfl
def AggP (e : Ending) (n er : Int) : Prop := ∃ (r0 r1 : Int) (ua : Option Addr) (ul uc : Nat) (b1 b2 b3 : Int), e = .returned (.tuple #[.agg #[.int .i64 r0, .int .i64 r1, .slice ua ul uc, .int .i64 b1, .int .u64 b2, .int .u64 b3], .int .i64 n, .int .i64 er])
theorem decP_agg {w w' : World} {xs : List Nat} {v : Value} {n er : Int} (h : DecA repP RepR w w' xs v n er) : AggP (.returned (.tuple #[v, .int .i64 n, .int .i64 er])) n er := by
  obtain ⟨x, ⟨vu, rfl, hvu⟩, _⟩ := h
  obtain ⟨ua, uc, rfl⟩ := list_slice hvu
  exact ⟨_, _, _, _, _, _, _, _, rfl⟩
/- What bytes begin with: no frame, and why; or a frame. -/
def BadF (xs : List Nat) (E : Int) : Prop := (hd4 xs = none ∧ E = 9) ∨ ∃ V ys, hd4 xs = some (V, ys) ∧ ((65536 < V ∧ E = 3) ∨ (V ≤ 65536 ∧ ys.length < V ∧ E = 9))
theorem frame_or (xs : List Nat) : (∃ E, BadF xs E ∧ (E = 9 ∨ E = 3)) ∨ ∃ V ys, hd4 xs = some (V, ys) ∧ V ≤ 65536 ∧ V ≤ ys.length := by
  cases h : hd4 xs with
  | none => exact .inl ⟨9, .inl ⟨h, rfl⟩, .inl rfl⟩
  | some p =>
    obtain ⟨V, ys⟩ := p
    rcases (by omega : 65536 < V ∨ (V ≤ 65536 ∧ ys.length < V) ∨ (V ≤ 65536 ∧ V ≤ ys.length)) with k | ⟨k1, k2⟩ | k
    · exact .inl ⟨3, .inr ⟨V, ys, h, .inl ⟨k, rfl⟩⟩, .inr rfl⟩
    · exact .inl ⟨9, .inr ⟨V, ys, h, .inr ⟨k1, k2, rfl⟩⟩, .inl rfl⟩
    · exact .inr ⟨V, ys, rfl, k.1, k.2⟩
theorem dec_bad {α : Type} {pf : Ps α} {rep : World → (Nat → Prop) → Value → α → Prop} {w w' : World} {xs : List Nat} {v : Value} {n er E : Int} (h : DecA pf rep w w' xs v n er) (hE : BadF xs E) : n = 0 ∧ er = E := by
  obtain ⟨x, _, hx⟩ := h
  rcases hx with ⟨h0, h1, h2⟩ | ⟨V, ys, e, hx⟩
  · rcases hE with ⟨_, rfl⟩ | ⟨V, ys, e, _⟩
    · exact ⟨h1, h2⟩
    · rw [h0] at e; cases e
  · rcases hE with ⟨e', _⟩ | ⟨V', ys', e', hE⟩
    · rw [e] at e'; cases e'
    · rw [e] at e'
      simp only [Option.some.injEq, Prod.mk.injEq] at e'
      obtain ⟨rfl, rfl⟩ := e'
      rcases hx with ⟨k, h1, h2⟩ | ⟨k, k2, h1, h2⟩ | ⟨k, k2, _⟩ <;> rcases hE with ⟨j, rfl⟩ | ⟨j, j2, rfl⟩
      · exact ⟨h1, h2⟩
      · omega
      · omega
      · exact ⟨h1, h2⟩
      · omega
      · omega
theorem dec_good {α : Type} {pf : Ps α} {rep : World → (Nat → Prop) → Value → α → Prop} {T : α → List Nat → Prop} (hT : TellsP pf T) {w w' : World} {xs : List Nat} {v : Value} {n er : Int} {V : Nat} {ys : List Nat} (h : DecA pf rep w w' xs v n er) (hh : hd4 xs = some (V, ys)) (h1 : V ≤ 65536) (h2 : V ≤ ys.length) (h256 : ∀ b ∈ ys, b < 256) :
    n = (V : Int) + 4 ∧ ∃ x, rep w' (Bn w w') v x ∧ ((er = 0 ∧ T x (ys.take V)) ∨ er = 8) := by
  obtain ⟨x, hr, hx⟩ := h
  rcases hx with ⟨e, _⟩ | ⟨V', ys', e, hx⟩
  · rw [hh] at e; cases e
  · rw [hh] at e
    simp only [Option.some.injEq, Prod.mk.injEq] at e
    obtain ⟨rfl, rfl⟩ := e
    rcases hx with ⟨k, _⟩ | ⟨_, k, _⟩ | ⟨_, _, hn, hx⟩
    · omega
    · omega
    · refine ⟨hn, x, hr, ?_⟩
      rcases hx with ⟨he, hp⟩ | ⟨he, _⟩
      · obtain ⟨t, ht, e⟩ := hT _ _ _ (by simp; omega) (fun b hb => h256 b (List.mem_of_mem_take hb)) hp
        rw [List.append_nil] at e
        exact .inl ⟨he, by rw [e]; exact ht⟩
      · exact .inr he
theorem hd4_mem {xs : List Nat} {V : Nat} {ys : List Nat} (h : hd4 xs = some (V, ys)) (hb : ∀ x ∈ xs, x < 256) : ∀ x ∈ ys, x < 256 := by
  match xs, h, hb with
  | x0 :: x1 :: x2 :: x3 :: zs, h, hb =>
    simp only [hd4, Option.some.injEq, Prod.mk.injEq] at h
    obtain ⟨_, rfl⟩ := h
    exact fun x hx => hb x (by simp [hx])
set_option maxRecDepth 100000 in
set_option maxHeartbeats 8000000 in
theorem wireOne_bad (a : Option Addr) (cap L : Nat) (E : Int) (w : World) (hE : E = 9 ∨ E = 3) (hL : ¬ 200000 < L)
    (HQ' : ∀ W, Below w.heap.size w W → Calls Try.prog 5 #[.slice a L cap] W fun e w' => AggQ e 0 E ∧ Below W.heap.size W w')
    (HP' : ∀ W, Below w.heap.size w W → Calls Try.prog 8 #[.slice a L cap] W fun e w' => AggP e 0 E ∧ Below W.heap.size W w') :
    Calls Try.prog 3 #[.slice a L cap] w fun e w' => e = .returned (.bool true) ∧ Below w.heap.size w w' := by
  have HQ := hide HQ'; have HP := hide HP'; have HA := hide alive_any
  have d1 : ((L : Int) > 200000) = False := eq_false (by omega)
  have d2 : ((200000 : Int) < (L : Int)) = False := eq_false (by omega)
  clear HQ' HP' hL
  rcases hE with rfl | rfl
  all_goals
    go_enter Try.func3, Try.ntmps3
    go_wp2_with fail
    refine (HA.out _).mono ?_
    rintro e w1 ⟨rfl, hb1⟩
    have B1 := hide hb1
    clear hb1
    go_wp2_with fail
    refine (HQ.out _ B1.out).mono ?_
    rintro e w2 ⟨⟨k2, sr2, tb2, m2, ua2, ul2, uc2, rfl⟩, hb2⟩
    have B2 := hide (B1.out.trans (hb2.mono B1.out.size))
    clear hb2
    go_wp2_with fail
    refine (HP.out _ (B2.out.alloc B2.out.size _)).mono ?_
    rintro e w3 ⟨⟨r0, r1, ua4, ul4, uc4, p1, p2, p3, rfl⟩, hb3⟩
    have B3 := hide ((B2.out.alloc B2.out.size _).trans (hb3.mono (B2.out.alloc B2.out.size _).size))
    clear hb3
    go_wp2
    go_ret
    exact ⟨rfl, B3.out.alloc B3.out.size _⟩
set_option maxRecDepth 100000 in
set_option maxHeartbeats 8000000 in
theorem wireOne_long (a : Option Addr) (cap L : Nat) (w : World) (hL : 200000 < L) :
    Calls Try.prog 3 #[.slice a L cap] w fun e w' => e = .returned (.bool true) ∧ Below w.heap.size w w' := by
  have HA := hide alive_any
  have d1 : ((L : Int) > 200000) = True := eq_true (by omega)
  have d2 : ((200000 : Int) < (L : Int)) = True := eq_true (by omega)
  clear hL
  go_enter Try.func3, Try.ntmps3
  go_wp2_with fail
  refine (HA.out _).mono ?_
  rintro e w1 ⟨rfl, hb1⟩
  have B1 := hide hb1
  clear hb1
  go_wp2_with fail
  refine (HA.out _).mono ?_
  rintro e w2 ⟨rfl, hb2⟩
  have B2 := hide (B1.out.trans (hb2.mono B1.out.size))
  clear hb2
  go_wp2
  go_ret
  exact ⟨rfl, B2.out⟩
end Go.Proofs.Ythlfbpadakoamaa
