/- Pieces of the proof: YP. -/
import Derived.Test.YthlfbpadakoamaaM12
/- WireOne's walk, where the bytes begin with a frame. -/
namespace Go.Proofs.Ythlfbpadakoamaa
open Go.RowKit

def AgQ (v : Value) : Prop := ∃ (k : Int) (sr tb : ByteArray) (m : Int) (ua : Option Addr) (ul uc : Nat), v = .agg #[.int .u8 k, .string sr, .string tb, .int .i64 m, .slice ua ul uc]
def AgP (v : Value) : Prop := ∃ (r0 r1 : Int) (ua : Option Addr) (ul uc : Nat) (b1 b2 b3 : Int), v = .agg #[.int .i64 r0, .int .i64 r1, .slice ua ul uc, .int .i64 b1, .int .u64 b2, .int .u64 b3]
/- What is handed out can be told again, as long as it lies there. -/
def AgainQ (N : Nat) (BN : List Nat) (w' : World) (v : Value) : Prop := ∀ W, Below w'.heap.size w' W → Calls Try.prog 6 #[v] W fun e w'' => (∃ ca cc, e = .returned (.tuple #[.slice ca N cc, .int .i64 0]) ∧ RdA w'' ca BN) ∧ Below W.heap.size W w''
def AgainP (N : Nat) (BN : List Nat) (w' : World) (v : Value) : Prop := ∀ W, Below w'.heap.size w' W → Calls Try.prog 9 #[v] W fun e w'' => (∃ ca cc, e = .returned (.tuple #[.slice ca N cc, .int .i64 0]) ∧ RdA w'' ca BN) ∧ Below W.heap.size W w''
set_option maxRecDepth 100000 in
set_option maxHeartbeats 16000000 in
theorem wireOne_good (qb qo : Nat) (qs : Option _) (cap L N : Nat) (BN : List Nat) (e1 e2 : Int) (w : World) (he1 : e1 = 0 ∨ e1 = 8) (he2 : e2 = 0 ∨ e2 = 8) (hL : ¬ 200000 < L) (hN : 4 ≤ N) (hNL : N ≤ L) (hLc : L ≤ cap)
    (HQ' : ∀ W, Below w.heap.size w W → Calls Try.prog 5 #[.slice (some ⟨qb, qo, qs⟩) L cap] W fun e w' => (∃ v, e = .returned (.tuple #[v, .int .i64 N, .int .i64 e1]) ∧ AgQ v ∧ (e1 = 0 → AgainQ N BN w' v)) ∧ Below W.heap.size W w')
    (HP' : ∀ W, Below w.heap.size w W → Calls Try.prog 8 #[.slice (some ⟨qb, qo, qs⟩) L cap] W fun e w' => (∃ v, e = .returned (.tuple #[v, .int .i64 N, .int .i64 e2]) ∧ AgP v ∧ (e2 = 0 → AgainP N BN w' v)) ∧ Below W.heap.size W w')
    (HS' : ∀ W ca cc, Below w.heap.size w W → RdA W ca BN → Calls Try.prog 7 #[.slice ca N cc, .slice (some ⟨qb, qo, qs⟩) N cap] W fun e w' => e = .returned (.bool true) ∧ Below W.heap.size W w') :
    Calls Try.prog 3 #[.slice (some ⟨qb, qo, qs⟩) L cap] w fun e w' => e = .returned (.bool true) ∧ Below w.heap.size w w' := by
  have HQ := hide HQ'; have HP := hide HP'; have HS := hide HS'; have HA := hide alive_any
  have d1 : ((L : Int) > 200000) = False := eq_false (by omega)
  have d2 : ((200000 : Int) < (L : Int)) = False := eq_false (by omega)
  have f2 : ((N : Int) > (L : Int)) = False := eq_false (by omega)
  have f3 : ((L : Int) < (N : Int)) = False := eq_false (by omega)
  have f3' : (L < N) = False := eq_false (by omega)
  have f5 : ((N : Int) > 0) = True := eq_true (by omega)
  have f5' : ((0 : Int) < (N : Int)) = True := eq_true (by omega)
  have f5'' : (0 < N) = True := eq_true (by omega)
  have g5 : ((N : Int) ≤ (cap : Int)) = True := eq_true (by omega)
  have g6 : (N ≤ cap) = True := eq_true (by omega)
  clear HQ' HP' HS' hL hN hNL hLc
  go_enter Try.func3, Try.ntmps3
  go_wp2_with fail
  refine (HA.out _).mono ?_
  rintro e w1 ⟨rfl, hb1⟩
  have B1 := hide hb1
  clear hb1
  go_wp2_with fail
  refine (HQ.out _ B1.out).mono ?_
  rintro e w2 ⟨⟨v2, rfl, ⟨k2, sr2, tb2, m2, ua2, ul2, uc2, rfl⟩, hag⟩, hb2⟩
  have B2 := hide (B1.out.trans (hb2.mono B1.out.size))
  have HAG := hide hag
  have B2a := hide (B2.out.alloc B2.out.size (.cells #[.int .u8 k2, .string sr2, .string tb2, .int .i64 m2, .slice ua2 ul2 uc2] 27))
  clear hb2 hag
  rcases he1 with rfl | rfl
  · go_wp2_with fail
    refine (HAG.out (by simp) _ ((Below.refl _ w2).alloc (Nat.le_refl _) _)).mono ?_
    rintro e w3 ⟨⟨ca, cc, rfl, hrd⟩, hb3⟩
    have B3 := hide (B2a.out.trans (hb3.mono B2a.out.size))
    have HRD := hide hrd
    clear hb3 hrd
    go_wp2_with fail
    refine (HS.out _ _ _ B3.out HRD.out).mono ?_
    rintro e w4 ⟨rfl, hb4⟩
    have B4 := hide (B3.out.trans (hb4.mono B3.out.size))
    clear hb4
    go_wp2_with fail
    refine (HP.out _ B4.out).mono ?_
    rintro e w5 ⟨⟨v5, rfl, ⟨r0, r1, ua5, ul5, uc5, p1, p2, p3, rfl⟩, hap⟩, hb5⟩
    have B5 := hide (B4.out.trans (hb5.mono B4.out.size))
    have HAP := hide hap
    have B5a := hide (B5.out.alloc B5.out.size (.cells #[.int .i64 r0, .int .i64 r1, .slice ua5 ul5 uc5, .int .i64 p1, .int .u64 p2, .int .u64 p3] 39))
    clear hb5 hap
    rcases he2 with rfl | rfl
    · go_wp2_with fail
      refine (HAP.out (by simp) _ ((Below.refl _ w5).alloc (Nat.le_refl _) _)).mono ?_
      rintro e w6 ⟨⟨ca6, cc6, rfl, hrd⟩, hb6⟩
      have B6 := hide (B5a.out.trans (hb6.mono B5a.out.size))
      have HRD6 := hide hrd
      clear hb6 hrd
      go_wp2_with fail
      refine (HS.out _ _ _ B6.out HRD6.out).mono ?_
      rintro e w7 ⟨rfl, hb7⟩
      have B7 := hide (B6.out.trans (hb7.mono B6.out.size))
      clear hb7
      go_wp2
      go_ret
      exact ⟨rfl, B7.out⟩
    · go_wp2
      go_ret
      exact ⟨rfl, B5a.out⟩
  · go_wp2_with fail
    refine (HP.out _ B2a.out).mono ?_
    rintro e w5 ⟨⟨v5, rfl, ⟨r0, r1, ua5, ul5, uc5, p1, p2, p3, rfl⟩, hap⟩, hb5⟩
    have B5 := hide (B2a.out.trans (hb5.mono B2a.out.size))
    have HAP := hide hap
    have B5a := hide (B5.out.alloc B5.out.size (.cells #[.int .i64 r0, .int .i64 r1, .slice ua5 ul5 uc5, .int .i64 p1, .int .u64 p2, .int .u64 p3] 39))
    clear hb5 hap
    rcases he2 with rfl | rfl
    · go_wp2_with fail
      refine (HAP.out (by simp) _ ((Below.refl _ w5).alloc (Nat.le_refl _) _)).mono ?_
      rintro e w6 ⟨⟨ca6, cc6, rfl, hrd⟩, hb6⟩
      have B6 := hide (B5a.out.trans (hb6.mono B5a.out.size))
      have HRD6 := hide hrd
      clear hb6 hrd
      go_wp2_with fail
      refine (HS.out _ _ _ B6.out HRD6.out).mono ?_
      rintro e w7 ⟨rfl, hb7⟩
      have B7 := hide (B6.out.trans (hb7.mono B6.out.size))
      clear hb7
      go_wp2
      go_ret
      exact ⟨rfl, B7.out⟩
    · go_wp2
      go_ret
      exact ⟨rfl, B5a.out⟩
theorem again_q {N : Nat} {BN t : List Nat} {w w' : World} {v : Value} {x : ReqA} (hr : ReqR w' (Bn w w') v x) (hT : ReqT x t) (hl : t.length ≤ 65536) (hB : fr4 t.length ++ t = BN) (hN : BN.length = N) : AgainQ N BN w' v := fun W hb => by
  have h1 : ReqR W (· < W.heap.size) v x := req_ok.mono (req_ok.frame hr hb.size (fun b _ hl => hb.block b hl)) (fun b k => by have := k.2; have := hb.size; show b < W.heap.size; omega)
  refine (encRequest_yes W v x t h1 hT hl).mono (fun e w'' ⟨c, he, ho, hb2⟩ => ?_)
  rw [hB] at ho
  obtain ⟨ca, cc, rfl, _⟩ := ho.shape
  exact ⟨⟨ca, cc, by rw [he, hN], (ho.rd).2⟩, hb2⟩
theorem again_p {N : Nat} {BN t : List Nat} {w w' : World} {v : Value} {x : RepA} (hr : RepR w' (Bn w w') v x) (hT : RepT x t) (hl : t.length ≤ 65536) (hB : fr4 t.length ++ t = BN) (hN : BN.length = N) : AgainP N BN w' v := fun W hb => by
  have h1 : RepR W (· < W.heap.size) v x := rep_ok.mono (rep_ok.frame hr hb.size (fun b _ hl => hb.block b hl)) (fun b k => by have := k.2; have := hb.size; show b < W.heap.size; omega)
  refine (encReply_yes W v x t h1 hT hl).mono (fun e w'' ⟨c, he, ho, hb2⟩ => ?_)
  rw [hB] at ho
  obtain ⟨ca, cc, rfl, _⟩ := ho.shape
  exact ⟨⟨ca, cc, by rw [he, hN], (ho.rd).2⟩, hb2⟩
theorem dec_code {α : Type} {pf : Ps α} {rep : World → (Nat → Prop) → Value → α → Prop} {T : α → List Nat → Prop} (hT : TellsP pf T) {V : Nat} {ys : List Nat} (h256 : ∀ b ∈ ys, b < 256) (h1 : V ≤ 65536) (h2 : V ≤ ys.length) : ∃ E : Int, (E = 0 ∨ E = 8) ∧ ∀ (w w' : World) (xs : List Nat) (v : Value) (n er : Int), hd4 xs = some (V, ys) → DecA pf rep w w' xs v n er → n = (V : Int) + 4 ∧ er = E ∧ ∃ x, rep w' (Bn w w') v x ∧ (E = 0 → T x (ys.take V)) := by
  by_cases hx : ∃ x, pf (ys.take V) = some (x, [])
  · refine ⟨0, .inl rfl, fun w w' xs v n er hh h => ?_⟩
    obtain ⟨hn, x, hr, hc⟩ := dec_good hT h hh h1 h2 h256
    rcases hc with ⟨he, hT'⟩ | he
    · exact ⟨hn, he, x, hr, fun _ => hT'⟩
    · exfalso
      obtain ⟨x', hx'⟩ := hx
      obtain ⟨y, _, hy⟩ := h
      rcases hy with ⟨e, _⟩ | ⟨V', ys', e, hy⟩
      · rw [hh] at e; cases e
      · rw [hh] at e
        simp only [Option.some.injEq, Prod.mk.injEq] at e
        obtain ⟨rfl, rfl⟩ := e
        rcases hy with ⟨k, _⟩ | ⟨_, k, _⟩ | ⟨_, _, _, hy⟩
        · omega
        · omega
        · rcases hy with ⟨k, _⟩ | ⟨_, k⟩
          · omega
          · exact k x' hx'
  · refine ⟨8, .inr rfl, fun w w' xs v n er hh h => ?_⟩
    obtain ⟨y, hr, hy⟩ := h
    rcases hy with ⟨e, _⟩ | ⟨V', ys', e, hy⟩
    · rw [hh] at e; cases e
    · rw [hh] at e
      simp only [Option.some.injEq, Prod.mk.injEq] at e
      obtain ⟨rfl, rfl⟩ := e
      rcases hy with ⟨k, _⟩ | ⟨_, k, _⟩ | ⟨_, _, hn, hy⟩
      · omega
      · omega
      · rcases hy with ⟨_, k⟩ | ⟨k, _⟩
        · exact absurd ⟨y, k⟩ hx
        · exact ⟨hn, k, y, hr, fun e => by omega⟩
theorem wireOne_walk (a : Option Addr) (cap : Nat) (xs : List Nat) (w : World) (hr : RdA w a xs) (hcap : xs.length ≤ cap) (h256 : ∀ x ∈ xs, x < 256) :
    Calls Try.prog 3 #[.slice a xs.length cap] w fun e w' => e = .returned (.bool true) ∧ Below w.heap.size w w' := by
  by_cases hL : 200000 < xs.length
  · exact wireOne_long a cap xs.length w hL
  · rcases frame_or xs with ⟨E, hE, hEE⟩ | ⟨V, ys, hh, h1, h2⟩
    · refine wireOne_bad a cap xs.length E w hEE hL (fun W hB => ?_) (fun W hB => ?_)
      · exact (decRequest_any a cap xs W (hr.below hB) hcap h256 (by omega)).mono (fun e w' ⟨⟨v, n, er, he, hD⟩, hb⟩ => by
          have hA := dec_agg hD
          obtain ⟨rfl, rfl⟩ := dec_bad hD hE
          exact ⟨by rw [he]; exact hA, hb⟩)
      · exact (decReply_any a cap xs W (hr.below hB) hcap h256 (by omega)).mono (fun e w' ⟨⟨v, n, er, he, hD⟩, hb⟩ => by
          have hA := decP_agg hD
          obtain ⟨rfl, rfl⟩ := dec_bad hD hE
          exact ⟨by rw [he]; exact hA, hb⟩)
    · have hys := hd4_mem hh h256
      have hlen := hd4_len hh
      obtain ⟨qb, qo, rfl, hq, hc⟩ := hr.some (by omega)
      obtain ⟨e1, he1, k1⟩ := dec_code (rep := ReqR) req_told hys h1 h2
      obtain ⟨e2, he2, k2⟩ := dec_code (rep := RepR) rep_told hys h1 h2
      have hBN := hd4_frame hh h256 h2
      have hT : (ys.take V).length ≤ 65536 := by simp; omega
      have hBL : (xs.take (V + 4)).length = V + 4 := by simp; omega
      refine wireOne_good qb qo none cap xs.length (V + 4) (xs.take (V + 4)) e1 e2 w he1 he2 hL (by omega) (by omega) hcap (fun W hB => ?_) (fun W hB => ?_) (fun W ca cc hB hrd => ?_)
      · exact (decRequest_any _ cap xs W (hr.below hB) hcap h256 (by omega)).mono (fun e w' ⟨⟨v, n, er, he, hD⟩, hb⟩ => by
          obtain ⟨hn, rfl, x, hx, hxT⟩ := k1 _ _ _ _ _ _ hh hD
          refine ⟨⟨v, by rw [he, hn]; rfl, ?_, fun h0 => again_q hx (hxT h0) hT hBN hBL⟩, hb⟩
          obtain ⟨vu, rfl, hvu⟩ := hx
          obtain ⟨ua, uc, rfl⟩ := list_slice hvu
          exact ⟨_, _, _, _, _, _, _, rfl⟩)
      · exact (decReply_any _ cap xs W (hr.below hB) hcap h256 (by omega)).mono (fun e w' ⟨⟨v, n, er, he, hD⟩, hb⟩ => by
          obtain ⟨hn, rfl, x, hx, hxT⟩ := k2 _ _ _ _ _ _ hh hD
          refine ⟨⟨v, by rw [he, hn]; rfl, ?_, fun h0 => again_p hx (hxT h0) hT hBN hBL⟩, hb⟩
          obtain ⟨vu, rfl, hvu⟩ := hx
          obtain ⟨ua, uc, rfl⟩ := list_slice hvu
          exact ⟨_, _, _, _, _, _, _, _, rfl⟩)
      · have := same_rd (xs.take (V + 4)) (by rw [hBL]; omega) ca (some ⟨qb, qo, none⟩) cc cap W hrd (rdA_take (hr.below hB) _)
        rw [hBL] at this
        exact this
end Go.Proofs.Ythlfbpadakoamaa
