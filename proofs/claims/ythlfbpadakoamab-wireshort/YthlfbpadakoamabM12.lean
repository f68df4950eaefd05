/- Pieces of the proof: YA, YS. -/
import Derived.Test.YthlfbpadakoamabM11
/- The law's own answers that the document fixes: alive. -/
namespace Go.Proofs.Ythlfbpadakoamab
open Go.RowKit

def rqT : ReqA := ⟨3, ByteArray.empty, ⟨#[116]⟩, 0, []⟩
theorem rqT_told : ReqT rqT [3, 1, 116] := ⟨3, [1, 116], rfl, rfl, .inr (.inr (.inl ⟨rfl, rfl, rfl, rfl, by decide, rfl⟩))⟩
def rpT : RepA := ⟨0, 0, [], ⟨4, 0, 15⟩⟩
theorem rpT_told : RepT rpT [0, 0, 0, 0, 0, 0, 0, 4, 15] :=
  ⟨0, [0], [0, 0, 0, 0], [0, 0], [], [4, 15], rfl, ⟨by decide, rfl⟩, ⟨0, 0, 0, 0, by decide, by decide, by decide, by decide, by decide, rfl, rfl⟩, ⟨by decide, rfl⟩, rfl, .inr ⟨4, 15, by decide, by decide, by decide, rfl, rfl⟩, rfl⟩
/- A request as DecodeRequest hands it out, whatever it is. -/
def AggQ (e : Ending) (n er : Int) : Prop := ∃ (k : Int) (sr tb : ByteArray) (m : Int) (ua : Option Addr) (ul uc : Nat), e = .returned (.tuple #[.agg #[.int .u8 k, .string sr, .string tb, .int .i64 m, .slice ua ul uc], .int .i64 n, .int .i64 er])
theorem dec_short {w w' : World} {xs : List Nat} {v : Value} {n er : Int} (h : DecA reqP ReqR w w' xs v n er) (hh : hd4 xs = none ∨ ∃ V ys, hd4 xs = some (V, ys) ∧ V ≤ 65536 ∧ ys.length < V) : n = 0 ∧ er = 9 := by
  obtain ⟨x, _, hx⟩ := h
  rcases hx with ⟨_, h1, h2⟩ | ⟨V, ys, e, hx⟩
  · exact ⟨h1, h2⟩
  · rcases hh with hh | ⟨V', ys', e', k1, k2⟩
    · rw [e] at hh; cases hh
    · rw [e] at e'
      simp only [Option.some.injEq, Prod.mk.injEq] at e'
      obtain ⟨rfl, rfl⟩ := e'
      rcases hx with ⟨k, _⟩ | ⟨_, _, h1, h2⟩ | ⟨_, k, _⟩
      · omega
      · exact ⟨h1, h2⟩
      · omega
theorem dec_agg {w w' : World} {xs : List Nat} {v : Value} {n er : Int} (h : DecA reqP ReqR w w' xs v n er) : AggQ (.returned (.tuple #[v, .int .i64 n, .int .i64 er])) n er := by
  obtain ⟨x, ⟨vu, rfl, hvu⟩, _⟩ := h
  obtain ⟨ua, uc, rfl⟩ := list_slice hvu
  exact ⟨_, _, _, _, _, _, _, rfl⟩
theorem req_ok3 : reqP [3, 1, 116] = some (⟨3, ByteArray.empty, ⟨#[116]⟩, 0, []⟩, []) := by rfl
theorem req_no3 : reqP [3, 2, 116] = none := by rfl
theorem dec3 (a : Option Addr) (w : World) (hr : RdA w a [0, 0, 0, 3, 3, 1, 116, 255]) : Calls Try.prog 5 #[.slice a 8 8] w fun e w' => (∃ (sr : ByteArray) (m : Int) (ua : Option Addr) (ul uc : Nat), e = .returned (.tuple #[.agg #[.int .u8 3, .string sr, .string ⟨#[116]⟩, .int .i64 m, .slice ua ul uc], .int .i64 7, .int .i64 0])) ∧ Below w.heap.size w w' :=
  (decRequest_any a 8 _ w hr (by decide) (by decide) (by decide)).mono (fun e w' ⟨⟨v, n, er, he, x, hv, hx⟩, hb⟩ => by
    refine ⟨?_, hb⟩
    rcases hx with ⟨h1, _⟩ | ⟨V, ys, e1, hx⟩
    · cases h1
    · have : V = 3 ∧ ys = [3, 1, 116, 255] := by
        have e2 : some (val4 0 0 0 3, [3, 1, 116, 255]) = some (V, ys) := e1
        simp only [Option.some.injEq, Prod.mk.injEq] at e2
        exact ⟨e2.1.symm, e2.2.symm⟩
      obtain ⟨rfl, rfl⟩ := this
      rcases hx with ⟨k, _⟩ | ⟨_, k, _⟩ | ⟨_, _, hn, hx⟩
      · omega
      · simp at k
      · rcases hx with ⟨rfl, hp⟩ | ⟨_, hp⟩
        · have hp' : reqP [3, 1, 116] = some (x, []) := hp
          rw [req_ok3] at hp'
          simp only [Option.some.injEq, Prod.mk.injEq, and_true] at hp'
          subst hp'
          obtain ⟨vu, rfl, hvu⟩ := hv
          obtain ⟨ua, uc, rfl⟩ := list_slice hvu
          subst hn
          exact ⟨_, _, _, _, _, he⟩
        · exact absurd req_ok3 (hp _))
theorem dec4 (a : Option Addr) (w : World) (hr : RdA w a [0, 0, 0, 3, 3, 2, 116]) : Calls Try.prog 5 #[.slice a 7 7] w fun e w' => AggQ e 7 8 ∧ Below w.heap.size w w' :=
  (decRequest_any a 7 _ w hr (by decide) (by decide) (by decide)).mono (fun e w' ⟨⟨v, n, er, he, hD⟩, hb⟩ => by
    refine ⟨?_, hb⟩
    have hA := dec_agg hD
    obtain ⟨x, hv, hx⟩ := hD
    rcases hx with ⟨h1, _⟩ | ⟨V, ys, e1, hx⟩
    · cases h1
    · have : V = 3 ∧ ys = [3, 2, 116] := by
        have e2 : some (val4 0 0 0 3, [3, 2, 116]) = some (V, ys) := e1
        simp only [Option.some.injEq, Prod.mk.injEq] at e2
        exact ⟨e2.1.symm, e2.2.symm⟩
      obtain ⟨rfl, rfl⟩ := this
      rcases hx with ⟨k, _⟩ | ⟨_, k, _⟩ | ⟨_, _, hn, hx⟩
      · omega
      · simp at k
      · rcases hx with ⟨_, hp⟩ | ⟨rfl, hp⟩
        · have hp' : reqP [3, 2, 116] = some (x, []) := hp
          rw [req_no3] at hp'
          cases hp'
        · subst hn
          rw [he]; exact hA)
theorem dec5 (a : Option Addr) (w : World) (hr : RdA w a [0, 1, 0, 1]) : Calls Try.prog 5 #[.slice a 4 4] w fun e w' => AggQ e 0 3 ∧ Below w.heap.size w w' :=
  (decRequest_any a 4 _ w hr (by decide) (by decide) (by decide)).mono (fun e w' ⟨⟨v, n, er, he, hD⟩, hb⟩ => by
    refine ⟨?_, hb⟩
    have hA := dec_agg hD
    obtain ⟨x, hv, hx⟩ := hD
    rcases hx with ⟨h1, _⟩ | ⟨V, ys, e1, hx⟩
    · cases h1
    · have : V = 65537 ∧ ys = [] := by
        have e2 : some (val4 0 1 0 1, []) = some (V, ys) := e1
        simp only [Option.some.injEq, Prod.mk.injEq] at e2
        exact ⟨e2.1.symm, e2.2.symm⟩
      obtain ⟨rfl, rfl⟩ := this
      rcases hx with ⟨_, rfl, rfl⟩ | ⟨k, _⟩ | ⟨k, _⟩
      · rw [he]; exact hA
      · omega
      · omega)
theorem dec6 (a : Option Addr) (w : World) (hr : RdA w a [0, 0, 0, 3, 3, 1]) : Calls Try.prog 5 #[.slice a 6 6] w fun e w' => AggQ e 0 9 ∧ Below w.heap.size w w' :=
  (decRequest_any a 6 _ w hr (by decide) (by decide) (by decide)).mono (fun e w' ⟨⟨v, n, er, he, hD⟩, hb⟩ => by
    have hA := dec_agg hD
    obtain ⟨rfl, rfl⟩ := dec_short hD (.inr ⟨3, [3, 1], rfl, by decide, by decide⟩)
    exact ⟨by rw [he]; exact hA, hb⟩)
theorem below_lit {X w' : World} {o : Obj} (h : Below (X.alloc o).heap.size (X.alloc o) w') : Below X.heap.size X w' := ((Below.refl _ X).alloc (Nat.le_refl _) o).trans (h.mono (by simp))
def b7 : List Nat := [0, 0, 0, 3, 3, 1, 116]
def b13 : List Nat := [0, 0, 0, 9, 0, 0, 0, 0, 0, 0, 0, 4, 15]
theorem dec3L (X : World) (N : Nat) (hN : N = X.heap.size) : Calls Try.prog 5 #[.slice (some ⟨N, 0, none⟩) 8 8] (X.alloc (.cells #[.int .u8 0, .int .u8 0, .int .u8 0, .int .u8 3, .int .u8 3, .int .u8 1, .int .u8 116, .int .u8 255] 5)) fun e w' => (∃ (sr : ByteArray) (m : Int) (ua : Option Addr) (ul uc : Nat), e = .returned (.tuple #[.agg #[.int .u8 3, .string sr, .string ⟨#[116]⟩, .int .i64 m, .slice ua ul uc], .int .i64 7, .int .i64 0])) ∧ Below X.heap.size X w' :=
  by subst hN; exact (dec3 _ _ (lit_rd X [0, 0, 0, 3, 3, 1, 116, 255] _ _ rfl)).mono (fun e w' h => ⟨h.1, below_lit h.2⟩)
theorem dec4L (X : World) (N : Nat) (hN : N = X.heap.size) : Calls Try.prog 5 #[.slice (some ⟨N, 0, none⟩) 7 7] (X.alloc (.cells #[.int .u8 0, .int .u8 0, .int .u8 0, .int .u8 3, .int .u8 3, .int .u8 2, .int .u8 116] 5)) fun e w' => AggQ e 7 8 ∧ Below X.heap.size X w' :=
  by subst hN; exact (dec4 _ _ (lit_rd X [0, 0, 0, 3, 3, 2, 116] _ _ rfl)).mono (fun e w' h => ⟨h.1, below_lit h.2⟩)
theorem dec5L (X : World) (N : Nat) (hN : N = X.heap.size) : Calls Try.prog 5 #[.slice (some ⟨N, 0, none⟩) 4 4] (X.alloc (.cells #[.int .u8 0, .int .u8 1, .int .u8 0, .int .u8 1] 5)) fun e w' => AggQ e 0 3 ∧ Below X.heap.size X w' :=
  by subst hN; exact (dec5 _ _ (lit_rd X [0, 1, 0, 1] _ _ rfl)).mono (fun e w' h => ⟨h.1, below_lit h.2⟩)
theorem dec6L (X : World) (N : Nat) (hN : N = X.heap.size) : Calls Try.prog 5 #[.slice (some ⟨N, 0, none⟩) 6 6] (X.alloc (.cells #[.int .u8 0, .int .u8 0, .int .u8 0, .int .u8 3, .int .u8 3, .int .u8 1] 5)) fun e w' => AggQ e 0 9 ∧ Below X.heap.size X w' :=
  by subst hN; exact (dec6 _ _ (lit_rd X [0, 0, 0, 3, 3, 1] _ _ rfl)).mono (fun e w' h => ⟨h.1, below_lit h.2⟩)
theorem same_b7 (X : World) (N : Nat) (hN : N = X.heap.size) (a : Option Addr) (c : Nat) (h : RdA X a b7) : Calls Try.prog 9 #[.slice a 7 c, .slice (some ⟨N, 0, none⟩) 7 7] (X.alloc (.cells #[.int .u8 0, .int .u8 0, .int .u8 0, .int .u8 3, .int .u8 3, .int .u8 1, .int .u8 116] 5)) fun e w' => e = .returned (.bool true) ∧ Below X.heap.size X w' :=
  by subst hN; exact (same_rd b7 (by decide) a _ c _ _ (h.below ((Below.refl _ _).alloc (Nat.le_refl _) _)) (lit_rd X b7 _ _ rfl)).mono (fun e w' h => ⟨h.1, below_lit h.2⟩)
theorem same_b13 (X : World) (N : Nat) (hN : N = X.heap.size) (a : Option Addr) (c : Nat) (h : RdA X a b13) : Calls Try.prog 9 #[.slice a 13 c, .slice (some ⟨N, 0, none⟩) 13 13] (X.alloc (.cells #[.int .u8 0, .int .u8 0, .int .u8 0, .int .u8 9, .int .u8 0, .int .u8 0, .int .u8 0, .int .u8 0, .int .u8 0, .int .u8 0, .int .u8 0, .int .u8 4, .int .u8 15] 5)) fun e w' => e = .returned (.bool true) ∧ Below X.heap.size X w' :=
  by subst hN; exact (same_rd b13 (by decide) a _ c _ _ (h.below ((Below.refl _ _).alloc (Nat.le_refl _) _)) (lit_rd X b13 _ _ rfl)).mono (fun e w' h => ⟨h.1, below_lit h.2⟩)
set_option maxRecDepth 100000 in
set_option maxHeartbeats 8000000 in
theorem alive_any (w : World) : Calls Try.prog 4 #[] w fun e w' => e = .returned (.bool true) ∧ Below w.heap.size w w' := by
  have HE1 : Hid (∀ W : World, Calls Try.prog 7 #[.agg #[.int .u8 3, .string ⟨#[]⟩, .string ⟨#[116]⟩, .int .i64 0, .slice none 0 0]] W fun e w' => ∃ v, e = .returned (.tuple #[v, .int .i64 0]) ∧ Own8 w' W.heap.size v b7 ∧ Below W.heap.size W w') := hide (fun W => encRequest_yes W _ rqT [3, 1, 116] ⟨_, rfl, list_nil _ _ _ _ _⟩ rqT_told (by decide))
  have HE2 := hide encRequest_bad
  have HE7 : Hid (∀ W : World, Calls Try.prog 8 #[.agg #[.int .i64 0, .int .i64 0, .slice none 0 0, .int .i64 4, .int .u64 0, .int .u64 15]] W fun e w' => ∃ v, e = .returned (.tuple #[v, .int .i64 0]) ∧ Own8 w' W.heap.size v b13 ∧ Below W.heap.size W w') := hide (fun W => encReply_yes W _ rpT [0, 0, 0, 0, 0, 0, 0, 4, 15] ⟨_, rfl, list_nil _ _ _ _ _⟩ rpT_told (by decide))
  go_enter Try.func4, Try.ntmps4
  go_wp2_with fail
  refine (HE1.out _).mono ?_
  rintro e w1 ⟨v1, rfl, ho1, hb1⟩
  obtain ⟨sa, sc, hv1, _, _, _⟩ := ho1.shape
  rw [show b7.length = 7 from rfl] at hv1
  subst hv1
  have RB := hide (ho1.rd).2
  have B1 := hide hb1
  clear ho1 hb1
  go_wp2_with fail
  refine (HE2.out _).mono ?_
  rintro e w2 ⟨rfl, hb2⟩
  have RB2 := hide (RB.out.below hb2)
  have B2 := hide (B1.out.trans (hb2.mono B1.out.size))
  clear hb2 RB B1
  go_wp2_with fail
  refine (dec3L w2 _ rfl).mono ?_
  rintro e w3 ⟨⟨sr, m, ua, ul, uc, rfl⟩, hb3⟩
  have hb3' := hb3
  have RB3 := hide (RB2.out.below hb3')
  have B3 := hide (B2.out.trans (hb3'.mono B2.out.size))
  have HR3 := hide (heap_alloc_new w3 (.cells #[.int .u8 3, .string sr, .string ⟨#[116]⟩, .int .i64 m, .slice ua ul uc] 28))
  have RB3a := hide (RB3.out.below ((Below.refl _ w3).alloc (Nat.le_refl _) (.cells #[.int .u8 3, .string sr, .string ⟨#[116]⟩, .int .i64 m, .slice ua ul uc] 28)))
  have B3a := hide (B3.out.alloc B3.out.size (.cells #[.int .u8 3, .string sr, .string ⟨#[116]⟩, .int .i64 m, .slice ua ul uc] 28))
  clear hb3 hb3' RB2 B2 RB3 B3
  go_wp2_with fail
  refine (dec4L _ _ (by simp)).mono ?_
  rintro e w4 ⟨⟨k4, sr4, tb4, m4, ua4, ul4, uc4, rfl⟩, hb4⟩
  have hb4' := hb4
  have RB4 := hide (RB3a.out.below hb4')
  have B4 := hide (B3a.out.trans (hb4'.mono B3a.out.size))
  have HR4 := hide ((hb4'.block _ (lt_of_heap HR3.out)).trans HR3.out)
  have RB4a := hide (RB4.out.below ((Below.refl _ w4).alloc (Nat.le_refl _) (.cells #[.int .u8 k4, .string sr4, .string tb4, .int .i64 m4, .slice ua4 ul4 uc4] 28)))
  have B4a := hide (B4.out.alloc B4.out.size (.cells #[.int .u8 k4, .string sr4, .string tb4, .int .i64 m4, .slice ua4 ul4 uc4] 28))
  have HR4a := hide ((Below.heap_alloc w4 (.cells #[.int .u8 k4, .string sr4, .string tb4, .int .i64 m4, .slice ua4 ul4 uc4] 28) _ (lt_of_heap HR4.out)).trans HR4.out)
  clear hb4 hb4' RB3a B3a RB4 B4 HR3 HR4
  go_wp2_with fail
  refine (dec5L _ _ (by simp)).mono ?_
  rintro e w5 ⟨⟨k5, sr5, tb5, m5, ua5, ul5, uc5, rfl⟩, hb5⟩
  have hb5' := hb5
  have RB5 := hide (RB4a.out.below hb5')
  have B5 := hide (B4a.out.trans (hb5'.mono B4a.out.size))
  have HR5 := hide ((hb5'.block _ (lt_of_heap HR4a.out)).trans HR4a.out)
  have RB5a := hide (RB5.out.below ((Below.refl _ w5).alloc (Nat.le_refl _) (.cells #[.int .u8 k5, .string sr5, .string tb5, .int .i64 m5, .slice ua5 ul5 uc5] 28)))
  have B5a := hide (B5.out.alloc B5.out.size (.cells #[.int .u8 k5, .string sr5, .string tb5, .int .i64 m5, .slice ua5 ul5 uc5] 28))
  have HR5a := hide ((Below.heap_alloc w5 (.cells #[.int .u8 k5, .string sr5, .string tb5, .int .i64 m5, .slice ua5 ul5 uc5] 28) _ (lt_of_heap HR5.out)).trans HR5.out)
  clear hb5 hb5' RB4a B4a RB5 B5 HR4a HR5
  go_wp2_with fail
  refine (dec6L _ _ (by simp)).mono ?_
  rintro e w6 ⟨⟨k6, sr6, tb6, m6, ua6, ul6, uc6, rfl⟩, hb6⟩
  have hb6' := hb6
  have RB6 := hide (RB5a.out.below hb6')
  have B6 := hide (B5a.out.trans (hb6'.mono B5a.out.size))
  have HR6 := hide ((hb6'.block _ (lt_of_heap HR5a.out)).trans HR5a.out)
  have RB6a := hide (RB6.out.below ((Below.refl _ w6).alloc (Nat.le_refl _) (.cells #[.int .u8 k6, .string sr6, .string tb6, .int .i64 m6, .slice ua6 ul6 uc6] 28)))
  have B6a := hide (B6.out.alloc B6.out.size (.cells #[.int .u8 k6, .string sr6, .string tb6, .int .i64 m6, .slice ua6 ul6 uc6] 28))
  have HR6a := hide ((Below.heap_alloc w6 (.cells #[.int .u8 k6, .string sr6, .string tb6, .int .i64 m6, .slice ua6 ul6 uc6] 28) _ (lt_of_heap HR6.out)).trans HR6.out)
  clear hb6 hb6' RB5a B5a RB6 B6 HR5a HR6
  go_wp2_with fail
  refine (HE7.out _).mono ?_
  rintro e w7 ⟨v7, rfl, ho7, hb7⟩
  obtain ⟨sa7, sc7, hv7, _, _, _⟩ := ho7.shape
  rw [show b13.length = 13 from rfl] at hv7
  subst hv7
  have RC7 := hide (ho7.rd).2
  have RB7 := hide (RB6a.out.below hb7)
  have B7 := hide (B6a.out.trans (hb7.mono B6a.out.size))
  obtain ⟨a0, a1, a2, a3, a4, _⟩ := cells5 ((hb7.block _ (lt_of_heap HR6a.out)).trans HR6a.out)
  clear ho7 hb7 RB6a B6a HR6a
  go_wp2_with fail
  refine (same_b7 w7 _ rfl _ _ RB7.out).mono ?_
  rintro e w8 ⟨rfl, hb8⟩
  have hb8' := hb8
  have RC8 := hide (RC7.out.below hb8')
  have B8 := hide (B7.out.trans (hb8'.mono B7.out.size))
  clear hb8 hb8' RC7 B7 RB7 a0 a1 a2 a3 a4
  go_wp2_with fail
  refine (same_b13 w8 _ rfl _ _ RC8.out).mono ?_
  rintro e w9 ⟨rfl, hb9⟩
  have B9 := hide (B8.out.trans (hb9.mono B8.out.size))
  clear hb9
  go_wp2
  go_ret
  exact ⟨rfl, B9.out⟩
end Go.Proofs.Ythlfbpadakoamab
/- WireShort's walk. -/
namespace Go.Proofs.Ythlfbpadakoamab
open Go.RowKit

theorem rdA_take {W : World} {a : Option Addr} {xs : List Nat} (h : RdA W a xs) (k : Nat) : RdA W a (xs.take k) := by
  rcases h with rfl | ⟨p, off, rfl, hp, hc⟩
  · exact .inl (by simp)
  · exact .inr ⟨p, off, rfl, hp, fun i hi => by have h2 : i < xs.length := (by simp at hi; omega); rw [hc i h2]; simp⟩
theorem hd4_take {xs : List Nat} {V k : Nat} {ys : List Nat} (h : hd4 xs = some (V, ys)) (hk : k < V + 4) (hV : V ≤ 65536) (hy : V ≤ ys.length) : hd4 (xs.take k) = none ∨ ∃ V' zs, hd4 (xs.take k) = some (V', zs) ∧ V' ≤ 65536 ∧ zs.length < V' := by
  match xs, h with
  | x0 :: x1 :: x2 :: x3 :: zs, h =>
    simp only [hd4, Option.some.injEq, Prod.mk.injEq] at h
    obtain ⟨rfl, rfl⟩ := h
    by_cases h4 : k < 4
    · exact .inl (hd4_few (by simp; omega))
    · obtain ⟨m, rfl⟩ : ∃ m, k = m + 4 := ⟨k - 4, by omega⟩
      exact .inr ⟨_, zs.take m, rfl, hV, by simp; omega⟩
def AggP (e : Ending) (n er : Int) : Prop := ∃ (r0 r1 : Int) (ua : Option Addr) (ul uc : Nat) (b1 b2 b3 : Int), e = .returned (.tuple #[.agg #[.int .i64 r0, .int .i64 r1, .slice ua ul uc, .int .i64 b1, .int .u64 b2, .int .u64 b3], .int .i64 n, .int .i64 er])
theorem decP_short {w w' : World} {xs : List Nat} {v : Value} {n er : Int} (h : DecA repP RepR w w' xs v n er) (hh : hd4 xs = none ∨ ∃ V ys, hd4 xs = some (V, ys) ∧ V ≤ 65536 ∧ ys.length < V) : n = 0 ∧ er = 9 := by
  obtain ⟨x, _, hx⟩ := h
  rcases hx with ⟨_, h1, h2⟩ | ⟨V, ys, e, hx⟩
  · exact ⟨h1, h2⟩
  · rcases hh with hh | ⟨V', ys', e', k1, k2⟩
    · rw [e] at hh; cases hh
    · rw [e] at e'
      simp only [Option.some.injEq, Prod.mk.injEq] at e'
      obtain ⟨rfl, rfl⟩ := e'
      rcases hx with ⟨k, _⟩ | ⟨_, _, h1, h2⟩ | ⟨_, k, _⟩
      · omega
      · exact ⟨h1, h2⟩
      · omega
theorem decP_agg {w w' : World} {xs : List Nat} {v : Value} {n er : Int} (h : DecA repP RepR w w' xs v n er) : AggP (.returned (.tuple #[v, .int .i64 n, .int .i64 er])) n er := by
  obtain ⟨x, ⟨vu, rfl, hvu⟩, _⟩ := h
  obtain ⟨ua, uc, rfl⟩ := list_slice hvu
  exact ⟨_, _, _, _, _, _, _, _, rfl⟩
/- What DecodeRequest answers: too few, too much, or a frame. -/
def ShA (xs : List Nat) (n er : Int) : Prop := (n = 0 ∧ (er = 9 ∨ er = 3)) ∨ ∃ V ys, hd4 xs = some (V, ys) ∧ V ≤ 65536 ∧ V ≤ ys.length ∧ n = (V : Int) + 4 ∧ (er = 0 ∨ er = 8)
theorem dec_sh {w w' : World} {xs : List Nat} {v : Value} {n er : Int} (h : DecA reqP ReqR w w' xs v n er) : ShA xs n er := by
  obtain ⟨x, _, hx⟩ := h
  rcases hx with ⟨_, h1, h2⟩ | ⟨V, ys, e, hx⟩
  · exact .inl ⟨h1, .inl h2⟩
  · rcases hx with ⟨_, h1, h2⟩ | ⟨_, _, h1, h2⟩ | ⟨h1, h2, h3, h4⟩
    · exact .inl ⟨h1, .inr h2⟩
    · exact .inl ⟨h1, .inl h2⟩
    · exact .inr ⟨V, ys, e, h1, h2, h3, h4.elim (fun k => .inl k.1) (fun k => .inr k.1)⟩
theorem hd4_len {xs : List Nat} {V : Nat} {ys : List Nat} (h : hd4 xs = some (V, ys)) : xs.length = ys.length + 4 := by
  match xs, h with
  | x0 :: x1 :: x2 :: x3 :: zs, h =>
    simp only [hd4, Option.some.injEq, Prod.mk.injEq] at h
    obtain ⟨_, rfl⟩ := h
    rfl
set_option maxRecDepth 100000 in
set_option maxHeartbeats 8000000 in
theorem wireShort_walk (a : Option Addr) (cap : Nat) (xs : List Nat) (C : Nat) (w : World) (hr : RdA w a xs) (hcap : xs.length ≤ cap) (h256 : ∀ x ∈ xs, x < 256) (hC : C < 4294967296) (hL : xs.length ≤ 9223372036854775807) :
    Calls Try.prog 3 #[.slice a xs.length cap, .int .u32 C] w fun e w' => e = .returned (.bool true) ∧ Below w.heap.size w w' := by
  obtain ⟨L, hLL⟩ : ∃ L, xs.length = L := ⟨_, rfl⟩
  have HA := hide alive_any
  by_cases h2 : 200000 < L
  · have d1 : ((L : Int) > 200000) = True := eq_true (by omega)
    have d2 : ((200000 : Int) < (L : Int)) = True := eq_true (by omega)
    rw [hLL]
    clear hr hcap h256 hL hLL h2 hC
    go_enter Try.func3, Try.ntmps3
    go_wp2_with fail
    refine (HA.out _).mono ?_
    rintro e w1 ⟨rfl, hb1⟩
    have B1 := hide hb1
    clear hb1
    go_wp2_with fail
    refine (HA.out _).mono ?_
    rintro e w2 ⟨rfl, hb2⟩
    have B2 := hide (B1.out.trans (hb2.mono B1.out.size))
    clear hb2
    go_wp2
    go_ret
    exact ⟨rfl, B2.out⟩
  · have d1 : ((L : Int) > 200000) = False := eq_false (by omega)
    have d2 : ((200000 : Int) < (L : Int)) = False := eq_false (by omega)
    have HD : Hid (∀ W, Below w.heap.size w W → Calls Try.prog 5 #[.slice a L cap] W fun e w' => (∃ n er, AggQ e n er ∧ ShA xs n er) ∧ Below W.heap.size W w') := hide (fun W hB => by
      have := decRequest_any a cap xs W (hr.below hB) hcap h256 (by omega)
      rw [hLL] at this
      exact this.mono (fun e w' ⟨⟨v, n, er, he, hD⟩, hb⟩ => ⟨⟨n, er, by rw [he]; exact dec_agg hD, dec_sh hD⟩, hb⟩))
    have HK : Hid (∀ k W V ys, Below w.heap.size w W → hd4 xs = some (V, ys) → V ≤ 65536 → V ≤ ys.length → k < V + 4 → Calls Try.prog 5 #[.slice a k cap] W fun e w' => AggQ e 0 9 ∧ Below W.heap.size W w') := hide (fun k W V ys hB e1 e2 e3 e4 => by
      have hl := hd4_len e1
      have := decRequest_any a cap (xs.take k) W (rdA_take (hr.below hB) k) (by simp; omega) (fun x hx => h256 x (List.mem_of_mem_take hx)) (by simp; omega)
      rw [List.length_take, Nat.min_eq_left (by omega)] at this
      exact this.mono (fun e w' ⟨⟨v, n, er, he, hD⟩, hb⟩ => by
        have hA := dec_agg hD
        obtain ⟨rfl, rfl⟩ := dec_short hD (hd4_take e1 e4 e2 e3)
        exact ⟨by rw [he]; exact hA, hb⟩))
    have HP : Hid (∀ k W V ys, Below w.heap.size w W → hd4 xs = some (V, ys) → V ≤ 65536 → V ≤ ys.length → k < V + 4 → Calls Try.prog 6 #[.slice a k cap] W fun e w' => AggP e 0 9 ∧ Below W.heap.size W w') := hide (fun k W V ys hB e1 e2 e3 e4 => by
      have hl := hd4_len e1
      have := decReply_any a cap (xs.take k) W (rdA_take (hr.below hB) k) (by simp; omega) (fun x hx => h256 x (List.mem_of_mem_take hx)) (by simp; omega)
      rw [List.length_take, Nat.min_eq_left (by omega)] at this
      exact this.mono (fun e w' ⟨⟨v, n, er, he, hD⟩, hb⟩ => by
        have hA := decP_agg hD
        obtain ⟨rfl, rfl⟩ := decP_short hD (hd4_take e1 e4 e2 e3)
        exact ⟨by rw [he]; exact hA, hb⟩))
    have HSM : Hid (∀ V ys, hd4 xs = some (V, ys) → xs.length = ys.length + 4 ∧ ∃ q, a = some q) := hide (fun V ys e => ⟨hd4_len e, by
      rcases hr with hn | ⟨p, off, e', _⟩
      · rw [hn] at e; cases e
      · exact ⟨_, e'⟩⟩)
    have HCAP := hide hcap
    have HLL := hide hLL
    rw [hLL]
    clear hr hcap h256 hL hLL h2
    go_enter Try.func3, Try.ntmps3
    go_wp2_with fail
    refine (HA.out _).mono ?_
    rintro e w1 ⟨rfl, hb1⟩
    have B1 := hide hb1
    clear hb1
    go_wp2_with fail
    refine (HD.out _ B1.out).mono ?_
    rintro e w2 ⟨⟨n, er, ⟨k2, sr2, tb2, m2, ua2, ul2, uc2, rfl⟩, hS⟩, hb2⟩
    have B2 := hide (B1.out.trans (hb2.mono B1.out.size))
    clear hb2
    rcases hS with ⟨rfl, rfl | rfl⟩ | ⟨V, ys, e1, e2, e3, rfl, he⟩
    · go_wp2
      go_ret
      exact ⟨rfl, B2.out.alloc B2.out.size _⟩
    · go_wp2
      go_ret
      exact ⟨rfl, B2.out.alloc B2.out.size _⟩
    · obtain ⟨hlen, ⟨qb, qo, qs⟩, rfl⟩ := HSM.out V ys e1
      have hVL : V + 4 ≤ L := by rw [← HLL.out]; omega
      obtain ⟨N, hN⟩ : ∃ N, V + 4 = N := ⟨_, rfl⟩
      have hNI : (V : Int) + 4 = (N : Int) := by omega
      obtain ⟨K, hK⟩ : ∃ K, C % N = K := ⟨_, rfl⟩
      have hKN : K < V + 4 := by rw [← hK, ← hN]; exact Nat.mod_lt _ (by omega)
      have HX1 := hide (HK.out K · V ys · e1 e2 e3 hKN)
      have HX2 := hide (HP.out K · V ys · e1 e2 e3 hKN)
      have f1 : ((N : Int) < 4) = False := eq_false (by omega)
      have f2 : ((N : Int) > (L : Int)) = False := eq_false (by omega)
      have f3 : ((L : Int) < (N : Int)) = False := eq_false (by omega)
      have f3' : (L < N) = False := eq_false (by omega)
      have f4 : ((N : Int) = 0) = False := eq_false (by omega)
      have f4' : (N = 0) = False := eq_false (by omega)
      have f4b : ((N : Int) == 0) = false := by simp; omega
      have g1 : IntKind.u32.wrap (N : Int) = N := by rw [IntKind.wrap_u32]; omega
      have g2 : (C : Int).tmod (N : Int) = K := by rw [Int.tmod_eq_emod_of_nonneg (by omega), ← hK]; exact (Int.natCast_emod C N).symm
      have g2' : (C : Int) % (N : Int) = K := by rw [← hK]; exact (Int.natCast_emod C N).symm
      have g3 : IntKind.i64.wrap (K : Int) = K := by rw [IntKind.wrap_i64]; omega
      have g4 : IntKind.u32.wrap (K : Int) = K := by rw [IntKind.wrap_u32]; omega
      have g5 : ((K : Int) ≤ (cap : Int)) = True := eq_true (by have := HCAP.out; rw [HLL.out] at this; omega)
      have g6 : (K ≤ cap) = True := eq_true (by have := HCAP.out; rw [HLL.out] at this; omega)
      rw [hNI]
      clear e1 e2 e3 hlen hVL hN hNI hK hKN HD HK HP HSM hC
      rcases he with rfl | rfl
      all_goals
        go_wp2_with fail
        refine (HX1.out _ (B2.out.alloc B2.out.size _)).mono ?_
        rintro e w3 ⟨⟨k3, sr3, tb3, m3, ua3, ul3, uc3, rfl⟩, hb3⟩
        have B3 := hide ((B2.out.alloc B2.out.size _).trans (hb3.mono (B2.out.alloc B2.out.size _).size))
        clear hb3
        go_wp2_with fail
        refine (HX2.out _ (B3.out.alloc B3.out.size _)).mono ?_
        rintro e w4 ⟨⟨r0, r1, ua4, ul4, uc4, p1, p2, p3, rfl⟩, hb4⟩
        have B4 := hide ((B3.out.alloc B3.out.size _).trans (hb4.mono (B3.out.alloc B3.out.size _).size))
        clear hb4
        go_wp2
        go_ret
        exact ⟨rfl, B4.out.alloc B4.out.size _⟩
end Go.Proofs.Ythlfbpadakoamab
