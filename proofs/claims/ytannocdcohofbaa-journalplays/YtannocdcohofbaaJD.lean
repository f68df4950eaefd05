/- package journal: first. -/
import Derived.Test.YtannocdcohofbaaJC
import Derived.ChangeKeysEq
namespace Go.Proofs.Ytannocdcohofbaa
open Go.RowKit

set_option maxRecDepth 100000 in
theorem part4 (a b c d : Value) (W : World) : (part 5 #[a, b, c, d] 0).run Try.prog W = .ok a W ∧ (part 5 #[a, b, c, d] 1).run Try.prog W = .ok b W ∧ (part 5 #[a, b, c, d] 2).run Try.prog W = .ok c W ∧ (part 5 #[a, b, c, d] 3).run Try.prog W = .ok d W := by
  refine ⟨?_, ?_, ?_, ?_⟩ <;> rfl
set_option maxRecDepth 100000 in
theorem run_eq4 (a b c d e f g h : Int) (W : World) : (binOp .eql 76 (.agg #[.int .u8 a, .int .u8 b, .int .u8 c, .int .u8 d]) (.agg #[.int .u8 e, .int .u8 f, .int .u8 g, .int .u8 h])).run Try.prog W = .ok (.bool (decide (a = e ∧ b = f ∧ c = g ∧ d = h))) W := by
  obtain ⟨i0, hi0, hz0, hz1, hz2⟩ := info_parts Try.info8
  obtain ⟨p0, p1, p2, p3⟩ := part4 (.int .u8 a) (.int .u8 b) (.int .u8 c) (.int .u8 d) W
  obtain ⟨q0, q1, q2, q3⟩ := part4 (.int .u8 e) (.int .u8 f) (.int .u8 g) (.int .u8 h) W
  have hc : Try.prog.cellsOf 5 = 1 := by simp [Program.cellsOf, hi0, hz1]
  have hE : ∀ x y : Int, (Op.equalIn 9999 5 (.int .u8 x) (.int .u8 y)).run Try.prog W = .ok (x == y) W := fun x y => run_equalIn_int W 9998 5 .u8 .u8 x y Try.underlying5
  rw [run_eql_struct, run_equalIn_array W 9999 _ _ Try.underlying76 hi0, hc]
  rw [show List.range 4 = [0, 1, 2, 3] from rfl]
  simp only [Op.eqItems, Sem.run_bind, Nat.zero_mul, p0, q0, hE, Result.andThen_ok]
  by_cases h1 : a = e <;> by_cases h2 : b = f <;> by_cases h3 : c = g <;> by_cases h4 : d = h <;> simp_all
/- Two arrays of four bytes that a call has made. -/
structure FiM (w W : World) (s : Nat) (u v : List Value) : Prop where
  bl : Below w.heap.size w W
  le : w.heap.size ≤ s
  c1 : W.heap[s]? = some (.cells u.toArray 76 (0, 0))
  c2 : W.heap[s + 1]? = some (.cells v.toArray 76 (0, 0))
theorem FiM.start (w : World) : FiM w ((w.alloc (.cells #[.int .u8 0, .int .u8 0, .int .u8 0, .int .u8 0] 76)).alloc (.cells #[.int .u8 0, .int .u8 0, .int .u8 0, .int .u8 0] 76)) w.heap.size (u8s [0, 0, 0, 0]) (u8s [0, 0, 0, 0]) := by
  have h2 := heap_alloc_new (w.alloc (.cells #[.int .u8 0, .int .u8 0, .int .u8 0, .int .u8 0] 76)) (.cells #[.int .u8 0, .int .u8 0, .int .u8 0, .int .u8 0] 76)
  rw [World.size_alloc] at h2
  exact ⟨((Below.refl _ w).alloc (Nat.le_refl _) _).alloc (by simp) _, Nat.le_refl _, (Below.heap_alloc _ _ _ (by simp)).trans (heap_alloc_new w _), h2⟩
theorem FiM.row1 {w W : World} {s : Nat} {u u' v : List Value} (h : FiM w W s u v) : FiM w (W.setRow s u'.toArray) s u' v :=
  ⟨below_setRow h.bl h.le _, h.le, setRow_heap W s _ _ _ _ h.c1, (setRow_other W s (s + 1) _ (by omega)).trans h.c2⟩
theorem FiM.copy1 {w W : World} {s : Nat} {v : List Value} (F : FiM w W s (u8s [0, 0, 0, 0]) v) {ops : Array Oper} {rest : List Oper} {o : Oper} {a : Act} {Q : Exit → Act → World → Prop} (hgd : o.guard = none) (d x : Operand)
    (ho : o.op = .call { callee := .builtin .copy, args := #[d, x], argTypes := #[31, 31] }) (ad : Addr) (N cap : Nat) (hd : a.eval d = .slice (some ⟨s, 0, none⟩) 4 4) (hs : a.eval x = .slice (some ad) N cap) (hN : 4 ≤ N)
    (x0 x1 x2 x3 : Nat) (hsrc : ∀ j v, (u8s [x0, x1, x2, x3])[j]? = some v → W.cell? (ad.add j) = some v)
    (h : ∀ W', Hid (FiM w W' s (u8s [x0, x1, x2, x3]) v) → wpList Try.prog ops Q rest (a.put o.dst (goInt 4)) W') : wpList Try.prog ops Q (o :: rest) a W := by
  obtain ⟨i0, hi0, hz0, hz1, hz2⟩ := info_parts Try.info8
  have hsz : (Try.prog.info? 5).map (·.size) = some 1 := by rw [hi0]; simp [hz1]
  refine wpList_copy_own hgd d x 31 31 ho 5 Try.underlying31 hsz s 0 4 4 ad N cap hd hs _ 76 F.c1 (u8s [x0, x1, x2, x3]) (by show 4 = min N 4; omega) hsrc (by simp [u8s]) (u8s_one _) ?_
  exact h _ (F.row1 (u' := u8s [x0, x1, x2, x3]))
theorem FiM.lay2 {w W W1 : World} {s : Nat} {u v v' : List Value} (h : FiM w W s u v) (hb : Below (s + 1) W W1) (hr : W1.heap[s + 1]? = some (.cells v'.toArray 76 (0, 0))) : FiM w W1 s u v' :=
  ⟨h.bl.trans (hb.mono (by have := h.le; omega)), h.le, (hb.block _ (by omega)).trans h.c1, hr⟩
theorem FiM.drew {w W : World} {s : Nat} {u v : List Value} (h : FiM w W s u v) : FiM w W.drew s u v := ⟨h.bl.drew, h.le, h.c1, h.c2⟩
theorem FiM.next {w W W1 : World} {s : Nat} {u v : List Value} (h : FiM w W s u v) (hb : Below W.heap.size W W1) : FiM w W1 s u v :=
  ⟨h.bl.trans (hb.mono h.bl.size), h.le, (hb.block _ (Array.getElem?_eq_some_iff.1 h.c1).1).trans h.c1, (hb.block _ (Array.getElem?_eq_some_iff.1 h.c2).1).trans h.c2⟩
theorem four_cells {W : World} {s a b c d : Nat} {t : TypeId} (h : W.heap[s]? = some (.cells (u8s [a, b, c, d]).toArray t (0, 0))) : W.cell? ⟨s, 0, none⟩ = some (.int .u8 (a : Int)) ∧ W.cell? ⟨s, 1, none⟩ = some (.int .u8 (b : Int)) ∧ W.cell? ⟨s, 2, none⟩ = some (.int .u8 (c : Int)) ∧ W.cell? ⟨s, 3, none⟩ = some (.int .u8 (d : Int)) := by
  refine ⟨?_, ?_, ?_, ?_⟩ <;> (unfold World.cell?; simp only [h]; rfl)
theorem splice_all {α : Type} (a b c d x y z u : α) : splice [a, b, c, d] 0 [x, y, z, u] = [x, y, z, u] := rfl
theorem eight (xs : List Nat) (h : 8 ≤ xs.length) : ∃ x0 x1 x2 x3 x4 x5 x6 x7 ys, xs = x0 :: x1 :: x2 :: x3 :: x4 :: x5 :: x6 :: x7 :: ys := by
  match xs, h with
  | x0 :: x1 :: x2 :: x3 :: x4 :: x5 :: x6 :: x7 :: ys, _ => exact ⟨x0, x1, x2, x3, x4, x5, x6, x7, ys, rfl⟩
theorem isR_eight (x0 x1 x2 x3 x4 x5 x6 x7 : Nat) (ys : List Nat) : isR (x0 :: x1 :: x2 :: x3 :: x4 :: x5 :: x6 :: x7 :: ys) ↔ (1 ≤ x0 + 256 * x1 + 65536 * x2 + 16777216 * x3 ∧ x0 + 256 * x1 + 65536 * x2 + 16777216 * x3 ≤ 65537) ∧ x0 + 256 * x1 + 65536 * x2 + 16777216 * x3 ≤ ys.length ∧ le4 (sumF 2 (ys.take (x0 + 256 * x1 + 65536 * x2 + 16777216 * x3))) = [x4, x5, x6, x7] := by
  have e : num4 (x0 :: x1 :: x2 :: x3 :: x4 :: x5 :: x6 :: x7 :: ys) = x0 + 256 * x1 + 65536 * x2 + 16777216 * x3 := rfl
  unfold isR
  rw [e]
  have l : (x0 :: x1 :: x2 :: x3 :: x4 :: x5 :: x6 :: x7 :: ys).length = ys.length + 8 := rfl
  rw [l]
  constructor
  · rintro ⟨_, h1, h2, h3, h4⟩
    exact ⟨⟨h1, h2⟩, by omega, h4⟩
  · rintro ⟨⟨h1, h2⟩, h3, h4⟩
    exact ⟨by omega, h1, h2, by omega, h4⟩
theorem first_short (a : Option Addr) (n cap : Nat) (w : World) (h : n < 8) : Calls Try.prog 51 #[.slice a n cap] w fun e w' => e = .returned (.slice none 0 0) ∧ w' = w := by
  have d : ((n : Int) < 8) = True := by simp; omega
  go_enter Try.func51, Try.ntmps51
  go_wp2
  go_ret
  exact ⟨rfl, rfl⟩
theorem rdA_part {W : World} {p off : Nat} {xs : List Nat} (h : RdA W (some ⟨p, off, none⟩) xs) (k m : Nat) : RdA W (some ⟨p, off + k, none⟩) ((xs.drop k).take m) := by
  rcases h with rfl | ⟨p', off', e, hp, hc⟩
  · exact .inl (by simp)
  · injection e with e
    injection e with e1 e2 e3
    subst e1 e2
    refine .inr ⟨p, off + k, rfl, hp, fun i hi => ?_⟩
    rw [List.length_take, List.length_drop] at hi
    have := hc (k + i) (by omega)
    rw [Nat.add_assoc, this]
    simp
set_option maxRecDepth 100000 in
set_option maxHeartbeats 2000000 in
theorem first_long (p off cap : Nat) (xs : List Nat) (w : World) (hx : ∀ y ∈ xs, y < 256) (h8 : 8 ≤ xs.length) (hl : xs.length ≤ 1000000000) (hc : xs.length ≤ cap) (hr : RdA w (some ⟨p, off, none⟩) xs) :
    Calls Try.prog 51 #[.slice (some ⟨p, off, none⟩) xs.length cap] w fun e w' => e = .returned (if fstR xs = [] then .slice none 0 0 else .slice (some ⟨p, off + 8, none⟩) (fstR xs).length (cap - 8)) ∧ Below w.heap.size w w' := by
  obtain ⟨p', off', e, hp, hcl⟩ := hr.some (by omega)
  injection e with e
  injection e with e1 e2 e3
  subst e1 e2
  clear e3
  have HR := hide hr
  obtain ⟨x0, x1, x2, x3, x4, x5, x6, x7, ys, rfl⟩ := eight xs h8
  have HI := hide (isR_eight x0 x1 x2 x3 x4 x5 x6 x7 ys)
  have b0 := hx x0 (by simp); have b1 := hx x1 (by simp); have b2 := hx x2 (by simp); have b3 := hx x3 (by simp)
  have HV := hide (fun W => value_any x0 x1 x2 x3 W b0 b1 b2 b3)
  have HY := hide (fun (y : Nat) (hy : y ∈ ys) => hx y (by simp [hy]))
  have HM4 : Hid (num4 (x0 :: x1 :: x2 :: x3 :: x4 :: x5 :: x6 :: x7 :: ys) = x0 + 256 * x1 + 65536 * x2 + 16777216 * x3) := rfl
  have hnl : x0 + 256 * x1 + 65536 * x2 + 16777216 * x3 < 4294967296 := by omega
  clear b0 b1 b2 b3
  generalize x0 + 256 * x1 + 65536 * x2 + 16777216 * x3 = n at *
  obtain ⟨R, hR⟩ : ∃ R : Value, R = (if fstR (x0 :: x1 :: x2 :: x3 :: x4 :: x5 :: x6 :: x7 :: ys) = [] then .slice none 0 0 else .slice (some ⟨p, off + 8, none⟩) (fstR (x0 :: x1 :: x2 :: x3 :: x4 :: x5 :: x6 :: x7 :: ys)).length (cap - 8)) := ⟨_, rfl⟩
  rw [← hR]
  have RN : Hid (¬ isR (x0 :: x1 :: x2 :: x3 :: x4 :: x5 :: x6 :: x7 :: ys) → R = .slice none 0 0) := fun h => by rw [hR, if_pos (fstR_no h)]
  have RY : Hid (isR (x0 :: x1 :: x2 :: x3 :: x4 :: x5 :: x6 :: x7 :: ys) → R = .slice (some ⟨p, off + 8, none⟩) n (cap - 8)) := fun h => by
    have e := fstR_len h
    rw [HM4.out] at e
    have h1 := h.2.1
    rw [HM4.out] at h1
    rw [hR, if_neg (fun k => by rw [k] at e; simp at e; omega), e]
  clear hR
  obtain ⟨N, hN⟩ : ∃ N, N = ys.length + 8 := ⟨_, rfl⟩
  have hN2 : (x0 :: x1 :: x2 :: x3 :: x4 :: x5 :: x6 :: x7 :: ys).length = N := by rw [hN]; rfl
  rw [hN2] at hl hc ⊢
  have hN8 : (8 : Int) ≤ N := by omega
  have hN4 : (4 : Int) ≤ N := by omega
  have d8 : ((N : Int) < 8) = False := by simp; omega
  have hn4 : ¬ cap = 4 := by omega
  have S1 : Hid (∀ W, Below w.heap.size w W → ∀ j v, (u8s [x0, x1, x2, x3])[j]? = some v → W.cell? ((⟨p, off, none⟩ : Addr).add j) = some v) := fun W hb j v hj => by
    have hj4 : j < 4 := by
      have := (List.getElem?_eq_some_iff.1 hj).1
      simpa [u8s] using this
    refine rdA_src (W := W) (fun i hi => ((hb.cell (p := ⟨p, off + i, none⟩) hp).trans (hcl i hi))) j v ?_
    rw [← hj]
    rcases (by omega : j = 0 ∨ j = 1 ∨ j = 2 ∨ j = 3) with rfl | rfl | rfl | rfl <;> rfl
  have S2 : Hid (∀ W, Below w.heap.size w W → ∀ j v, (u8s [x4, x5, x6, x7])[j]? = some v → W.cell? ((⟨p, off + 4, none⟩ : Addr).add j) = some v) := fun W hb j v hj => by
    have hj4 : j < 4 := by
      have := (List.getElem?_eq_some_iff.1 hj).1
      simpa [u8s] using this
    have := rdA_src (W := W) (fun i hi => ((hb.cell (p := ⟨p, off + i, none⟩) hp).trans (hcl i hi))) (4 + j) v (by
      rw [← hj]
      rcases (by omega : j = 0 ∨ j = 1 ∨ j = 2 ∨ j = 3) with rfl | rfl | rfl | rfl <;> rfl)
    rw [add8] at this ⊢
    rw [Nat.add_assoc]; exact this
  obtain ⟨i0, hi0, hz0, hz1, hz2⟩ := info_parts Try.info8
  have hsz : (Try.prog.info? 5).map (·.size) = some 1 := by rw [hi0]; simp [hz1]
  have HX := hide hx
  have HN := hide hN
  clear hcl hr hx hN hN2
  go_enter Try.func51, Try.ntmps51
  have F0 := hide (FiM.start w)
  go_wp2_with (refine F0.out.copy1 rfl _ _ rfl ⟨p, off, none⟩ N cap rfl rfl (by omega) x0 x1 x2 x3 (S1.out _ F0.out.bl) ?_; intro W1 F1)
  have F1d := hide F1.out.drew
  clear F0 F1
  go_region_law (refine step_copy_splice rfl (.tmp 14) (.tmp 16) 31 31 rfl 5 Try.underlying31 hsz (some ⟨w.heap.size + 1, 0, none⟩) (some ⟨p, off + 4, none⟩) 4 4 (N - 4) (cap - 4) (by simp [Act.eval, Act.put]) (by simp [Act.eval, Act.put]) (w.heap.size + 1) 0 _ 76 F1d.out.c2 (u8s [x4, x5, x6, x7]) (by show 4 = min (N - 4) 4; omega) (fun _ => ⟨rfl, _, rfl, S2.out _ F1d.out.bl⟩) (by simp [u8s]) (u8s_one _) (w.heap.size + 1) W1.drew (Below.refl _ _) (Nat.le_refl _) ?_; intro W2 HG2 hB2; have F2 : Hid (FiM w W2 w.heap.size (u8s [x0, x1, x2, x3]) (u8s [x4, x5, x6, x7])) := F1d.out.lay2 hB2 HG2.out; clear HG2 hB2)
  obtain ⟨g0, g1, g2, g3⟩ := four_cells F2.out.c1
  have HQ := hide (fun W' (hb : Below W2.drew.heap.size W2.drew W') => F2.out.drew.next hb)
  have HV1 := hide (HV.out W2.drew)
  have HMH := hide (fun W => mayHave_any n W)
  by_cases hc8 : cap = 8
  · obtain rfl : N = 8 := by omega
    have RN1 := hide (RN.out (fun h => by have h1 := HI.out.1 h; have := HN.out; omega))
    subst hc8
    go_wp2_with fail
    go_region_with (go_at_call 55; refine HV1.out.mono ?_; rintro e wn ⟨rfl, hb⟩; have F3 := hide (HQ.out _ hb); clear hb)
    by_cases hm : 1 ≤ n ∧ n ≤ 65537
    · have HM1 := hide (HMH.out wn)
      rw [show decide (1 ≤ n ∧ n ≤ 65537) = true from decide_eq_true hm] at HM1
      have d1 : ((n : Int) > 0) = True := by simp; omega
      have d2 : (0 < n) = True := by simp; omega
      clear hm
      go_wp2_with fail
      refine HM1.out.mono ?_
      rintro e w5 ⟨rfl, rfl⟩
      go_wp2
      go_ret
      exact ⟨by rw [RN1.out]; rfl, F3.out.bl⟩
    · have HM1 := hide (HMH.out wn)
      rw [show decide (1 ≤ n ∧ n ≤ 65537) = false from decide_eq_false hm] at HM1
      clear hm
      go_wp2_with fail
      refine HM1.out.mono ?_
      rintro e w5 ⟨rfl, rfl⟩
      go_wp2
      go_ret
      exact ⟨by rw [RN1.out]; rfl, F3.out.bl⟩
  go_wp2_with fail
  go_region_with (go_at_call 55; refine HV1.out.mono ?_; rintro e wn ⟨rfl, hb⟩; have F3 := hide (HQ.out _ hb); clear hb)
  by_cases hm : 1 ≤ n ∧ n ≤ 65537
  · have HM1 := hide (HMH.out wn)
    rw [show decide (1 ≤ n ∧ n ≤ 65537) = true from decide_eq_true hm] at HM1
    have HMM := hide hm
    clear hm
    have hNI : ((N : Int) - 8) = ((N - 8 : Nat) : Int) := by omega
    have HNI := hide hNI
    clear hNI
    obtain ⟨M, hM⟩ : ∃ M, M = N - 8 := ⟨_, rfl⟩
    rw [← hM]
    have hMw : IntKind.u64.wrap (M : Int) = M := by rw [IntKind.wrap_u64]; omega
    have hMy : M = ys.length := by have := HN.out; omega
    have HMY := hide hMy
    clear hM hMy
    by_cases hle : n ≤ M
    · have d1 : ((n : Int) > (M : Int)) = False := by simp; omega
      have d2 : (M < n) = False := by simp; omega
      have d3 : (n : Int) ≤ (M : Int) := by omega
      have d4 : n ≤ cap - 8 := by have := HMY.out; have := HN.out; omega
      have hlen : (ys.take n).length = n := by rw [List.length_take]; have := HMY.out; omega
      have HRP : Hid (RdA w (some ⟨p, off + 8, none⟩) (ys.take n)) := rdA_part HR.out 8 n
      have HSO := hide (fun W (hb : Below w.heap.size w W) => sumOf_any (some ⟨p, off + 8, none⟩) (cap - 8) (ys.take n) W (fun y hy => HY.out y (List.mem_of_mem_take hy)) (by rw [hlen]; exact HMM.out.1) (by rw [hlen]; have := HMM.out.2; omega) (HRP.out.below hb))
      rw [hlen] at HSO
      clear hlen
      go_wp2_with fail
      refine HM1.out.mono ?_
      rintro e w5 ⟨rfl, hw5⟩
      subst hw5
      obtain ⟨k0, k1, k2, k3⟩ := four_cells F3.out.c2
      have HQ2 := hide (fun W' (hb : Below w5.drew.heap.size w5.drew W') => F3.out.drew.next hb)
      have HS1 := hide (HSO.out w5.drew F3.out.drew.bl)
      have HS2 := hide (HI.out)
      have hE := run_eq4 ((sumF 2 (ys.take n) : Nat) % 256 : Int) ((sumF 2 (ys.take n) : Nat) / 256 % 256 : Int) ((sumF 2 (ys.take n) : Nat) / 65536 % 256 : Int) ((sumF 2 (ys.take n) : Nat) / 16777216 % 256 : Int) x4 x5 x6 x7
      unfold numV at HS1
      by_cases hsm : le4 (sumF 2 (ys.take n)) = [x4, x5, x6, x7]
      · have RY1 := hide (RY.out (HI.out.2 ⟨HMM.out, by have := HMY.out; omega, hsm⟩))
        have hT : decide (((sumF 2 (ys.take n) : Nat) % 256 : Int) = x4 ∧ ((sumF 2 (ys.take n) : Nat) / 256 % 256 : Int) = x5 ∧ ((sumF 2 (ys.take n) : Nat) / 65536 % 256 : Int) = x6 ∧ ((sumF 2 (ys.take n) : Nat) / 16777216 % 256 : Int) = x7) = true := by
          simp only [le4, List.cons.injEq, and_true] at hsm
          simp only [decide_eq_true_eq]
          omega
        rw [hT] at hE
        clear hT hsm
        generalize sumF 2 (ys.take n) = S at *
        go_wp2_with fail
        go_region_with (go_at_call 42; refine HS1.out.mono ?_; rintro e wm ⟨rfl, hb⟩; have F4 := hide (HQ2.out _ hb); obtain ⟨m0, m1, m2, m3⟩ := four_cells F4.out.c2; clear hb)
        all_goals
          go_wp2
          go_ret
          exact ⟨by rw [RY1.out]; rfl, F4.out.bl⟩
      · have RN1 := hide (RN.out (fun h => hsm (HI.out.1 h).2.2))
        have hT : decide (((sumF 2 (ys.take n) : Nat) % 256 : Int) = x4 ∧ ((sumF 2 (ys.take n) : Nat) / 256 % 256 : Int) = x5 ∧ ((sumF 2 (ys.take n) : Nat) / 65536 % 256 : Int) = x6 ∧ ((sumF 2 (ys.take n) : Nat) / 16777216 % 256 : Int) = x7) = false := by
          simp only [le4, List.cons.injEq, and_true] at hsm
          simp only [decide_eq_false_iff_not]
          omega
        rw [hT] at hE
        clear hT hsm
        generalize sumF 2 (ys.take n) = S at *
        go_wp2_with fail
        go_region_with (go_at_call 42; refine HS1.out.mono ?_; rintro e wm ⟨rfl, hb⟩; have F4 := hide (HQ2.out _ hb); obtain ⟨m0, m1, m2, m3⟩ := four_cells F4.out.c2; clear hb)
        all_goals
          go_wp2
          go_ret
          exact ⟨by rw [RN1.out]; rfl, F4.out.bl⟩
    · have d1 : ((n : Int) > (M : Int)) = True := by simp; omega
      have d2 : (M < n) = True := by simp; omega
      have RN1 := hide (RN.out (fun h => by have h1 := HI.out.1 h; have := HMY.out; omega))
      go_wp2_with fail
      refine HM1.out.mono ?_
      rintro e w5 ⟨rfl, rfl⟩
      go_wp2
      go_ret
      exact ⟨by rw [RN1.out]; rfl, F3.out.bl⟩
  · have HM1 := hide (HMH.out wn)
    rw [show decide (1 ≤ n ∧ n ≤ 65537) = false from decide_eq_false hm] at HM1
    have RN1 := hide (RN.out (fun h => hm (HI.out.1 h).1))
    clear hm
    go_wp2_with fail
    refine HM1.out.mono ?_
    rintro e w5 ⟨rfl, rfl⟩
    go_wp2
    go_ret
    exact ⟨by rw [RN1.out]; rfl, F3.out.bl⟩
end Go.Proofs.Ytannocdcohofbaa
