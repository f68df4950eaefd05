/- Pieces of the proof: JDm, JEm. -/
import Derived.Test.YtpgkohimcofjnaaGreatDoorM13
import Derived.Laws.CopyOwn
import Derived.ChangeKeysEq
import Derived.Test.YtpgkohimcofjnaaGreatDoorM11
/- package journal: first. -/
namespace Go.Proofs.YtpgkohimcofjnaaGreatDoor
open Go.RowKit

set_option maxRecDepth 100000 in
theorem part4 (a b c d : Value) (W : World) : (part 5 #[a, b, c, d] 0).run Tryz.prog W = .ok a W ∧ (part 5 #[a, b, c, d] 1).run Tryz.prog W = .ok b W ∧ (part 5 #[a, b, c, d] 2).run Tryz.prog W = .ok c W ∧ (part 5 #[a, b, c, d] 3).run Tryz.prog W = .ok d W := by
  refine ⟨?_, ?_, ?_, ?_⟩ <;> rfl
set_option maxRecDepth 100000 in
theorem run_eq4 (a b c d e f g h : Int) (W : World) : (binOp .eql 285 (.agg #[.int .u8 a, .int .u8 b, .int .u8 c, .int .u8 d]) (.agg #[.int .u8 e, .int .u8 f, .int .u8 g, .int .u8 h])).run Tryz.prog W = .ok (.bool (decide (a = e ∧ b = f ∧ c = g ∧ d = h))) W := by
  obtain ⟨i0, hi0, hz0, hz1, hz2⟩ := info_parts Tryz.info8
  obtain ⟨p0, p1, p2, p3⟩ := part4 (.int .u8 a) (.int .u8 b) (.int .u8 c) (.int .u8 d) W
  obtain ⟨q0, q1, q2, q3⟩ := part4 (.int .u8 e) (.int .u8 f) (.int .u8 g) (.int .u8 h) W
  have hc : Tryz.prog.cellsOf 5 = 1 := by simp [Program.cellsOf, hi0, hz1]
  have hE : ∀ x y : Int, (Op.equalIn 9999 5 (.int .u8 x) (.int .u8 y)).run Tryz.prog W = .ok (x == y) W := fun x y => run_equalIn_int W 9998 5 .u8 .u8 x y Tryz.underlying5
  rw [run_eql_struct, run_equalIn_array W 9999 _ _ Tryz.underlying285 hi0, hc]
  rw [show List.range 4 = [0, 1, 2, 3] from rfl]
  simp only [Op.eqItems, Sem.run_bind, Nat.zero_mul, p0, q0, hE, Result.andThen_ok]
  by_cases h1 : a = e <;> by_cases h2 : b = f <;> by_cases h3 : c = g <;> by_cases h4 : d = h <;> simp_all
/- Two arrays of four bytes that a call has made. -/
structure FiM (w W : World) (s : Nat) (u v : List Value) : Prop where
  bl : Below w.heap.size w W
  le : w.heap.size ≤ s
  c1 : W.heap[s]? = some (.cells u.toArray 285 (0, 0))
  c2 : W.heap[s + 1]? = some (.cells v.toArray 285 (0, 0))
theorem FiM.start (w : World) : FiM w ((w.alloc (.cells #[.int .u8 0, .int .u8 0, .int .u8 0, .int .u8 0] 285)).alloc (.cells #[.int .u8 0, .int .u8 0, .int .u8 0, .int .u8 0] 285)) w.heap.size (u8s [0, 0, 0, 0]) (u8s [0, 0, 0, 0]) := by
  have h2 := heap_alloc_new (w.alloc (.cells #[.int .u8 0, .int .u8 0, .int .u8 0, .int .u8 0] 285)) (.cells #[.int .u8 0, .int .u8 0, .int .u8 0, .int .u8 0] 285)
  rw [World.size_alloc] at h2
  exact ⟨((Below.refl _ w).alloc (Nat.le_refl _) _).alloc (by simp) _, Nat.le_refl _, (Below.heap_alloc _ _ _ (by simp)).trans (heap_alloc_new w _), h2⟩
theorem FiM.row1 {w W : World} {s : Nat} {u u' v : List Value} (h : FiM w W s u v) : FiM w (W.setRow s u'.toArray) s u' v :=
  ⟨below_setRow h.bl h.le _, h.le, setRow_heap W s _ _ _ _ h.c1, (setRow_other W s (s + 1) _ (by omega)).trans h.c2⟩
theorem FiM.copy1 {w W : World} {s : Nat} {v : List Value} (F : FiM w W s (u8s [0, 0, 0, 0]) v) {ops : Array Oper} {rest : List Oper} {o : Oper} {a : Act} {Q : Exit → Act → World → Prop} (hgd : o.guard = none) (d x : Operand)
    (ho : o.op = .call { callee := .builtin .copy, args := #[d, x], argTypes := #[22, 22] }) (ad : Addr) (N cap : Nat) (hd : a.eval d = .slice (some ⟨s, 0, none⟩) 4 4) (hs : a.eval x = .slice (some ad) N cap) (hN : 4 ≤ N)
    (x0 x1 x2 x3 : Nat) (hsrc : ∀ j v, (u8s [x0, x1, x2, x3])[j]? = some v → W.cell? (ad.add j) = some v)
    (h : ∀ W', Hid (FiM w W' s (u8s [x0, x1, x2, x3]) v) → wpList Tryz.prog ops Q rest (a.put o.dst (goInt 4)) W') : wpList Tryz.prog ops Q (o :: rest) a W := by
  obtain ⟨i0, hi0, hz0, hz1, hz2⟩ := info_parts Tryz.info8
  have hsz : (Tryz.prog.info? 5).map (·.size) = some 1 := by rw [hi0]; simp [hz1]
  refine wpList_copy_own hgd d x 22 22 ho 5 Tryz.underlying22 hsz s 0 4 4 ad N cap hd hs _ 285 F.c1 (u8s [x0, x1, x2, x3]) (by show 4 = min N 4; omega) hsrc (by simp [u8s]) (u8s_one _) ?_
  exact h _ (F.row1 (u' := u8s [x0, x1, x2, x3]))
theorem FiM.lay2 {w W W1 : World} {s : Nat} {u v v' : List Value} (h : FiM w W s u v) (hb : Below (s + 1) W W1) (hr : W1.heap[s + 1]? = some (.cells v'.toArray 285 (0, 0))) : FiM w W1 s u v' :=
  ⟨h.bl.trans (hb.mono (by have := h.le; omega)), h.le, (hb.block _ (by omega)).trans h.c1, hr⟩
theorem FiM.drew {w W : World} {s : Nat} {u v : List Value} (h : FiM w W s u v) : FiM w W.drew s u v := ⟨h.bl.drew, h.le, h.c1, h.c2⟩
theorem FiM.next {w W W1 : World} {s : Nat} {u v : List Value} (h : FiM w W s u v) (hb : Below W.heap.size W W1) : FiM w W1 s u v :=
  ⟨h.bl.trans (hb.mono h.bl.size), h.le, (hb.block _ (Array.getElem?_eq_some_iff.1 h.c1).1).trans h.c1, (hb.block _ (Array.getElem?_eq_some_iff.1 h.c2).1).trans h.c2⟩
theorem four_cells {W : World} {s a b c d : Nat} {t : TypeId} (h : W.heap[s]? = some (.cells (u8s [a, b, c, d]).toArray t (0, 0))) : W.cell? ⟨s, 0, none⟩ = some (.int .u8 (a : Int)) ∧ W.cell? ⟨s, 1, none⟩ = some (.int .u8 (b : Int)) ∧ W.cell? ⟨s, 2, none⟩ = some (.int .u8 (c : Int)) ∧ W.cell? ⟨s, 3, none⟩ = some (.int .u8 (d : Int)) := by
  refine ⟨?_, ?_, ?_, ?_⟩ <;> (unfold World.cell?; simp only [h]; rfl)
theorem splice_all {α : Type} (a b c d x y z u : α) : splice [a, b, c, d] 0 [x, y, z, u] = [x, y, z, u] := rfl
theorem eight (xs : List Nat) (h : 8 ≤ xs.length) : ∃ x0 x1 x2 x3 x4 x5 x6 x7 ys, xs = x0 :: x1 :: x2 :: x3 :: x4 :: x5 :: x6 :: x7 :: ys := by
  match xs, h with
  | x0 :: x1 :: x2 :: x3 :: x4 :: x5 :: x6 :: x7 :: ys, _ => exact ⟨x0, x1, x2, x3, x4, x5, x6, x7, ys, rfl⟩
theorem isR_eight (x0 x1 x2 x3 x4 x5 x6 x7 : Nat) (ys : List Nat) : isR (x0 :: x1 :: x2 :: x3 :: x4 :: x5 :: x6 :: x7 :: ys) ↔ (1 ≤ x0 + 256 * x1 + 65536 * x2 + 16777216 * x3 ∧ x0 + 256 * x1 + 65536 * x2 + 16777216 * x3 ≤ 65537) ∧ x0 + 256 * x1 + 65536 * x2 + 16777216 * x3 ≤ ys.length ∧ le4 (sumF 2 (ys.take (x0 + 256 * x1 + 65536 * x2 + 16777216 * x3))) = [x4, x5, x6, x7] := by
  have e : num4 (x0 :: x1 :: x2 :: x3 :: x4 :: x5 :: x6 :: x7 :: ys) = x0 + 256 * x1 + 65536 * x2 + 16777216 * x3 := rfl
  unfold isR
  rw [e]
  have l : (x0 :: x1 :: x2 :: x3 :: x4 :: x5 :: x6 :: x7 :: ys).length = ys.length + 8 := rfl
  rw [l]
  constructor
  · rintro ⟨_, h1, h2, h3, h4⟩
    exact ⟨⟨h1, h2⟩, by omega, h4⟩
  · rintro ⟨⟨h1, h2⟩, h3, h4⟩
    exact ⟨by omega, h1, h2, by omega, h4⟩
theorem first_short (a : Option Addr) (n cap : Nat) (w : World) (h : n < 8) : Calls Tryz.prog 110 #[.slice a n cap] w fun e w' => e = .returned (.slice none 0 0) ∧ w' = w := by
  have d : ((n : Int) < 8) = True := by simp; omega
  go_enter Tryz.func110, Tryz.ntmps110
  go_wp2
  go_ret
  exact ⟨rfl, rfl⟩
theorem rdA_part {W : World} {p off : Nat} {xs : List Nat} (h : RdA W (some ⟨p, off, none⟩) xs) (k m : Nat) : RdA W (some ⟨p, off + k, none⟩) ((xs.drop k).take m) := by
  rcases h with rfl | ⟨p', off', e, hp, hc⟩
  · exact .inl (by simp)
  · injection e with e
    injection e with e1 e2 e3
    subst e1 e2
    refine .inr ⟨p, off + k, rfl, hp, fun i hi => ?_⟩
    rw [List.length_take, List.length_drop] at hi
    have := hc (k + i) (by omega)
    rw [Nat.add_assoc, this]
    simp
set_option maxRecDepth 100000 in
set_option maxHeartbeats 2000000 in
theorem first_long (p off cap : Nat) (xs : List Nat) (w : World) (hx : ∀ y ∈ xs, y < 256) (h8 : 8 ≤ xs.length) (hl : xs.length ≤ 1000000000) (hc : xs.length ≤ cap) (hr : RdA w (some ⟨p, off, none⟩) xs) :
    Calls Tryz.prog 110 #[.slice (some ⟨p, off, none⟩) xs.length cap] w fun e w' => e = .returned (if fstR xs = [] then .slice none 0 0 else .slice (some ⟨p, off + 8, none⟩) (fstR xs).length (cap - 8)) ∧ Below w.heap.size w w' := by
  obtain ⟨p', off', e, hp, hcl⟩ := hr.some (by omega)
  injection e with e
  injection e with e1 e2 e3
  subst e1 e2
  clear e3
  have HR := hide hr
  obtain ⟨x0, x1, x2, x3, x4, x5, x6, x7, ys, rfl⟩ := eight xs h8
  have HI := hide (isR_eight x0 x1 x2 x3 x4 x5 x6 x7 ys)
  have b0 := hx x0 (by simp); have b1 := hx x1 (by simp); have b2 := hx x2 (by simp); have b3 := hx x3 (by simp)
  have HV := hide (fun W => value_any x0 x1 x2 x3 W b0 b1 b2 b3)
  have HY := hide (fun (y : Nat) (hy : y ∈ ys) => hx y (by simp [hy]))
  have HM4 : Hid (num4 (x0 :: x1 :: x2 :: x3 :: x4 :: x5 :: x6 :: x7 :: ys) = x0 + 256 * x1 + 65536 * x2 + 16777216 * x3) := rfl
  have hnl : x0 + 256 * x1 + 65536 * x2 + 16777216 * x3 < 4294967296 := by omega
  clear b0 b1 b2 b3
  generalize x0 + 256 * x1 + 65536 * x2 + 16777216 * x3 = n at *
  obtain ⟨R, hR⟩ : ∃ R : Value, R = (if fstR (x0 :: x1 :: x2 :: x3 :: x4 :: x5 :: x6 :: x7 :: ys) = [] then .slice none 0 0 else .slice (some ⟨p, off + 8, none⟩) (fstR (x0 :: x1 :: x2 :: x3 :: x4 :: x5 :: x6 :: x7 :: ys)).length (cap - 8)) := ⟨_, rfl⟩
  rw [← hR]
  have RN : Hid (¬ isR (x0 :: x1 :: x2 :: x3 :: x4 :: x5 :: x6 :: x7 :: ys) → R = .slice none 0 0) := fun h => by rw [hR, if_pos (fstR_no h)]
  have RY : Hid (isR (x0 :: x1 :: x2 :: x3 :: x4 :: x5 :: x6 :: x7 :: ys) → R = .slice (some ⟨p, off + 8, none⟩) n (cap - 8)) := fun h => by
    have e := fstR_len h
    rw [HM4.out] at e
    have h1 := h.2.1
    rw [HM4.out] at h1
    rw [hR, if_neg (fun k => by rw [k] at e; simp at e; omega), e]
  clear hR
  obtain ⟨N, hN⟩ : ∃ N, N = ys.length + 8 := ⟨_, rfl⟩
  have hN2 : (x0 :: x1 :: x2 :: x3 :: x4 :: x5 :: x6 :: x7 :: ys).length = N := by rw [hN]; rfl
  rw [hN2] at hl hc ⊢
  have hN8 : (8 : Int) ≤ N := by omega
  have hN4 : (4 : Int) ≤ N := by omega
  have d8 : ((N : Int) < 8) = False := by simp; omega
  have hn4 : ¬ cap = 4 := by omega
  have S1 : Hid (∀ W, Below w.heap.size w W → ∀ j v, (u8s [x0, x1, x2, x3])[j]? = some v → W.cell? ((⟨p, off, none⟩ : Addr).add j) = some v) := fun W hb j v hj => by
    have hj4 : j < 4 := by
      have := (List.getElem?_eq_some_iff.1 hj).1
      simpa [u8s] using this
    refine rdA_src (W := W) (fun i hi => ((hb.cell (p := ⟨p, off + i, none⟩) hp).trans (hcl i hi))) j v ?_
    rw [← hj]
    rcases (by omega : j = 0 ∨ j = 1 ∨ j = 2 ∨ j = 3) with rfl | rfl | rfl | rfl <;> rfl
  have S2 : Hid (∀ W, Below w.heap.size w W → ∀ j v, (u8s [x4, x5, x6, x7])[j]? = some v → W.cell? ((⟨p, off + 4, none⟩ : Addr).add j) = some v) := fun W hb j v hj => by
    have hj4 : j < 4 := by
      have := (List.getElem?_eq_some_iff.1 hj).1
      simpa [u8s] using this
    have := rdA_src (W := W) (fun i hi => ((hb.cell (p := ⟨p, off + i, none⟩) hp).trans (hcl i hi))) (4 + j) v (by
      rw [← hj]
      rcases (by omega : j = 0 ∨ j = 1 ∨ j = 2 ∨ j = 3) with rfl | rfl | rfl | rfl <;> rfl)
    rw [add8] at this ⊢
    rw [Nat.add_assoc]; exact this
  obtain ⟨i0, hi0, hz0, hz1, hz2⟩ := info_parts Tryz.info8
  have hsz : (Tryz.prog.info? 5).map (·.size) = some 1 := by rw [hi0]; simp [hz1]
  have HX := hide hx
  have HN := hide hN
  clear hcl hr hx hN hN2
  go_enter Tryz.func110, Tryz.ntmps110
  have F0 := hide (FiM.start w)
  go_wp2_with (refine F0.out.copy1 rfl _ _ rfl ⟨p, off, none⟩ N cap rfl rfl (by omega) x0 x1 x2 x3 (S1.out _ F0.out.bl) ?_; intro W1 F1)
  have F1d := hide F1.out.drew
  clear F0 F1
  go_region_law (refine step_copy_splice rfl (.tmp 14) (.tmp 16) 22 22 rfl 5 Tryz.underlying22 hsz (some ⟨w.heap.size + 1, 0, none⟩) (some ⟨p, off + 4, none⟩) 4 4 (N - 4) (cap - 4) (by simp [Act.eval, Act.put]) (by simp [Act.eval, Act.put]) (w.heap.size + 1) 0 _ 285 F1d.out.c2 (u8s [x4, x5, x6, x7]) (by show 4 = min (N - 4) 4; omega) (fun _ => ⟨rfl, _, rfl, S2.out _ F1d.out.bl⟩) (by simp [u8s]) (u8s_one _) (w.heap.size + 1) W1.drew (Below.refl _ _) (Nat.le_refl _) ?_; intro W2 HG2 hB2; have F2 : Hid (FiM w W2 w.heap.size (u8s [x0, x1, x2, x3]) (u8s [x4, x5, x6, x7])) := F1d.out.lay2 hB2 HG2.out; clear HG2 hB2)
  obtain ⟨g0, g1, g2, g3⟩ := four_cells F2.out.c1
  have HQ := hide (fun W' (hb : Below W2.drew.heap.size W2.drew W') => F2.out.drew.next hb)
  have HV1 := hide (HV.out W2.drew)
  have HMH := hide (fun W => mayHave_any n W)
  by_cases hc8 : cap = 8
  · obtain rfl : N = 8 := by omega
    have RN1 := hide (RN.out (fun h => by have h1 := HI.out.1 h; have := HN.out; omega))
    subst hc8
    go_wp2_with fail
    go_region_with (go_at_call 172; refine HV1.out.mono ?_; rintro e wn ⟨rfl, hb⟩; have F3 := hide (HQ.out _ hb); clear hb)
    by_cases hm : 1 ≤ n ∧ n ≤ 65537
    · have HM1 := hide (HMH.out wn)
      rw [show decide (1 ≤ n ∧ n ≤ 65537) = true from decide_eq_true hm] at HM1
      have d1 : ((n : Int) > 0) = True := by simp; omega
      have d2 : (0 < n) = True := by simp; omega
      clear hm
      go_wp2_with fail
      refine HM1.out.mono ?_
      rintro e w5 ⟨rfl, rfl⟩
      go_wp2
      go_ret
      exact ⟨by rw [RN1.out]; rfl, F3.out.bl⟩
    · have HM1 := hide (HMH.out wn)
      rw [show decide (1 ≤ n ∧ n ≤ 65537) = false from decide_eq_false hm] at HM1
      clear hm
      go_wp2_with fail
      refine HM1.out.mono ?_
      rintro e w5 ⟨rfl, rfl⟩
      go_wp2
      go_ret
      exact ⟨by rw [RN1.out]; rfl, F3.out.bl⟩
  go_wp2_with fail
  go_region_with (go_at_call 172; refine HV1.out.mono ?_; rintro e wn ⟨rfl, hb⟩; have F3 := hide (HQ.out _ hb); clear hb)
  by_cases hm : 1 ≤ n ∧ n ≤ 65537
  · have HM1 := hide (HMH.out wn)
    rw [show decide (1 ≤ n ∧ n ≤ 65537) = true from decide_eq_true hm] at HM1
    have HMM := hide hm
    clear hm
    have hNI : ((N : Int) - 8) = ((N - 8 : Nat) : Int) := by omega
    have HNI := hide hNI
    clear hNI
    obtain ⟨M, hM⟩ : ∃ M, M = N - 8 := ⟨_, rfl⟩
    rw [← hM]
    have hMw : IntKind.u64.wrap (M : Int) = M := by rw [IntKind.wrap_u64]; omega
    have hMy : M = ys.length := by have := HN.out; omega
    have HMY := hide hMy
    clear hM hMy
    by_cases hle : n ≤ M
    · have d1 : ((n : Int) > (M : Int)) = False := by simp; omega
      have d2 : (M < n) = False := by simp; omega
      have d3 : (n : Int) ≤ (M : Int) := by omega
      have d4 : n ≤ cap - 8 := by have := HMY.out; have := HN.out; omega
      have hlen : (ys.take n).length = n := by rw [List.length_take]; have := HMY.out; omega
      have HRP : Hid (RdA w (some ⟨p, off + 8, none⟩) (ys.take n)) := rdA_part HR.out 8 n
      have HSO := hide (fun W (hb : Below w.heap.size w W) => sumOf_any (some ⟨p, off + 8, none⟩) (cap - 8) (ys.take n) W (fun y hy => HY.out y (List.mem_of_mem_take hy)) (by rw [hlen]; exact HMM.out.1) (by rw [hlen]; have := HMM.out.2; omega) (HRP.out.below hb))
      rw [hlen] at HSO
      clear hlen
      go_wp2_with fail
      refine HM1.out.mono ?_
      rintro e w5 ⟨rfl, hw5⟩
      subst hw5
      obtain ⟨k0, k1, k2, k3⟩ := four_cells F3.out.c2
      have HQ2 := hide (fun W' (hb : Below w5.drew.heap.size w5.drew W') => F3.out.drew.next hb)
      have HS1 := hide (HSO.out w5.drew F3.out.drew.bl)
      have HS2 := hide (HI.out)
      have hE := run_eq4 ((sumF 2 (ys.take n) : Nat) % 256 : Int) ((sumF 2 (ys.take n) : Nat) / 256 % 256 : Int) ((sumF 2 (ys.take n) : Nat) / 65536 % 256 : Int) ((sumF 2 (ys.take n) : Nat) / 16777216 % 256 : Int) x4 x5 x6 x7
      unfold numV at HS1
      by_cases hsm : le4 (sumF 2 (ys.take n)) = [x4, x5, x6, x7]
      · have RY1 := hide (RY.out (HI.out.2 ⟨HMM.out, by have := HMY.out; omega, hsm⟩))
        have hT : decide (((sumF 2 (ys.take n) : Nat) % 256 : Int) = x4 ∧ ((sumF 2 (ys.take n) : Nat) / 256 % 256 : Int) = x5 ∧ ((sumF 2 (ys.take n) : Nat) / 65536 % 256 : Int) = x6 ∧ ((sumF 2 (ys.take n) : Nat) / 16777216 % 256 : Int) = x7) = true := by
          simp only [le4, List.cons.injEq, and_true] at hsm
          simp only [decide_eq_true_eq]
          omega
        rw [hT] at hE
        clear hT hsm
        generalize sumF 2 (ys.take n) = S at *
        go_wp2_with fail
        go_region_with (go_at_call 174; refine HS1.out.mono ?_; rintro e wm ⟨rfl, hb⟩; have F4 := hide (HQ2.out _ hb); obtain ⟨m0, m1, m2, m3⟩ := four_cells F4.out.c2; clear hb)
        all_goals
          go_wp2
          go_ret
          exact ⟨by rw [RY1.out]; rfl, F4.out.bl⟩
      · have RN1 := hide (RN.out (fun h => hsm (HI.out.1 h).2.2))
        have hT : decide (((sumF 2 (ys.take n) : Nat) % 256 : Int) = x4 ∧ ((sumF 2 (ys.take n) : Nat) / 256 % 256 : Int) = x5 ∧ ((sumF 2 (ys.take n) : Nat) / 65536 % 256 : Int) = x6 ∧ ((sumF 2 (ys.take n) : Nat) / 16777216 % 256 : Int) = x7) = false := by
          simp only [le4, List.cons.injEq, and_true] at hsm
          simp only [decide_eq_false_iff_not]
          omega
        rw [hT] at hE
        clear hT hsm
        generalize sumF 2 (ys.take n) = S at *
        go_wp2_with fail
        go_region_with (go_at_call 174; refine HS1.out.mono ?_; rintro e wm ⟨rfl, hb⟩; have F4 := hide (HQ2.out _ hb); obtain ⟨m0, m1, m2, m3⟩ := four_cells F4.out.c2; clear hb)
        all_goals
          go_wp2
          go_ret
          exact ⟨by rw [RN1.out]; rfl, F4.out.bl⟩
    · have d1 : ((n : Int) > (M : Int)) = True := by simp; omega
      have d2 : (M < n) = True := by simp; omega
      have RN1 := hide (RN.out (fun h => by have h1 := HI.out.1 h; have := HMY.out; omega))
      go_wp2_with fail
      refine HM1.out.mono ?_
      rintro e w5 ⟨rfl, rfl⟩
      go_wp2
      go_ret
      exact ⟨by rw [RN1.out]; rfl, F3.out.bl⟩
  · have HM1 := hide (HMH.out wn)
    rw [show decide (1 ≤ n ∧ n ≤ 65537) = false from decide_eq_false hm] at HM1
    have RN1 := hide (RN.out (fun h => hm (HI.out.1 h).1))
    clear hm
    go_wp2_with fail
    refine HM1.out.mono ?_
    rintro e w5 ⟨rfl, rfl⟩
    go_wp2
    go_ret
    exact ⟨by rw [RN1.out]; rfl, F3.out.bl⟩
end Go.Proofs.YtpgkohimcofjnaaGreatDoor
/- package journal: the records one by one. -/
namespace Go.Proofs.YtpgkohimcofjnaaGreatDoor
open Go.RowKit Go.Shelf

attribute [local go_sem] Oper.semAt_some
/- A record and its place among bytes. -/
def RI (xs : List Nat) : Type := { x : Nat × List Nat // x.1 + 8 + x.2.length ≤ xs.length ∧ x.2 = (xs.drop (x.1 + 8)).take x.2.length ∧ okR x.2 }
def encR (p off cap : Nat) (xs : List Nat) (x : RI xs) : Array Value := #[.slice (some ⟨p, off + (x.1.1 + 8), none⟩) x.1.2.length (cap - (x.1.1 + 8))]
def vals {xs : List Nat} (l : List (RI xs)) : List (Nat × List Nat) := l.map (·.1)
theorem vals_snoc {xs : List Nat} (l : List (RI xs)) (x : RI xs) : vals (l ++ [x]) = vals l ++ [x.1] := by simp [vals]
theorem vals_length {xs : List Nat} (l : List (RI xs)) : (vals l).length = l.length := by simp [vals]
def mkRI (xs : List Nat) (pos : Nat) (h : fstR (xs.drop pos) ≠ []) : RI xs := ⟨(pos, fstR (xs.drop pos)), by
  have h1 := fstR_le _ h
  rw [List.length_drop, List.drop_drop] at h1
  exact ⟨by show pos + 8 + (fstR (xs.drop pos)).length ≤ xs.length; omega, h1.2.2.2, ⟨h1.1, h1.2.1⟩⟩⟩
theorem grown_of_below {W W' : World} (h : Below W.heap.size W W') : W.grownBy W' none := ⟨h.os, h.tape, h.output, h.size, fun b hb _ => h.block b hb⟩
theorem rdA_keepBut {E : Nat → Prop} {n₀ : Nat} {W W' : World} {a : Option Addr} {xs : List Nat} (h : RdA W a xs) (hk : KeepBut E n₀ W W') (l2 : ∀ q, a = some q → q.block < n₀) (e2 : ∀ q, a = some q → ¬ E q.block) : RdA W' a xs := by
  rcases h with h | ⟨p, off, rfl, hp, hc⟩
  · exact .inl h
  · exact .inr ⟨p, off, rfl, Nat.lt_of_lt_of_le hp hk.1, fun i hi => (hk.cell (p := ⟨p, off + i, none⟩) (l2 ⟨p, off, none⟩ rfl) (e2 ⟨p, off, none⟩ rfl)).trans (hc i hi)⟩
/- The rest of the bytes, as a slice. -/
structure RestAt (p off cap : Nat) (xs : List Nat) (pos : Nat) (q : Option Addr) (m c : Nat) : Prop where
  len : m = xs.length - pos
  le : pos ≤ xs.length
  at' : (q = some ⟨p, off + pos, none⟩ ∧ c = cap - pos) ∨ m < 8
structure Its (xs : List Nat) (pre : List (Nat × List Nat)) (pos f : Nat) : Prop where
  eq : pre ++ its f pos (xs.drop pos) = its xs.length 0 xs
  fu : (xs.drop pos).length ≤ f
theorem Its.stop {xs : List Nat} {pre : List (Nat × List Nat)} {pos f : Nat} (h : Its xs pre pos f) (hn : fstR (xs.drop pos) = []) : pre = its xs.length 0 xs := by
  have := h.eq
  rw [its_stop _ _ _ hn, List.append_nil] at this
  exact this
theorem Its.step {xs : List Nat} {pre : List (Nat × List Nat)} {pos f : Nat} (h : Its xs pre pos f) (hn : fstR (xs.drop pos) ≠ []) : Its xs (pre ++ [(pos, fstR (xs.drop pos))]) (pos + (8 + (fstR (xs.drop pos)).length)) (f - 1) ∧ pre.length < (its xs.length 0 xs).length := by
  have h1 := h.eq
  rw [its_step _ _ _ h.fu hn, List.drop_drop] at h1
  refine ⟨⟨by rw [List.append_assoc]; exact h1, ?_⟩, ?_⟩
  · have := fstR_le _ hn
    have h2 := h.fu
    rw [List.length_drop] at h2 ⊢
    rw [List.length_drop] at this
    omega
  · rw [← h1]; simp
theorem first_rest {W : World} {p off cap pos m c : Nat} {xs : List Nat} {q : Option Addr} (h : RestAt p off cap xs pos q m c) (hx : ∀ y ∈ xs, y < 256) (hl : xs.length ≤ 1000000000) (hcap : xs.length ≤ cap) (hr : RdA W (some ⟨p, off, none⟩) xs) :
    Calls Tryz.prog 110 #[.slice q m c] W fun e w' => ∃ v k d, e = .returned (.slice v k d) ∧ k = (fstR (xs.drop pos)).length ∧ (0 < k → v = some ⟨p, off + (pos + 8), none⟩ ∧ d = cap - (pos + 8)) ∧ Below W.heap.size W w' := by
  have hm := h.len
  have hle := h.le
  by_cases h8 : m < 8
  · refine (first_short q m c W h8).mono ?_
    rintro e w' ⟨rfl, rfl⟩
    refine ⟨none, 0, 0, rfl, ?_, fun h => absurd h (by omega), Below.refl _ _⟩
    rw [fstR_no (fun k => by have := k.1; rw [List.length_drop] at this; omega)]; rfl
  · obtain ⟨rfl, rfl⟩ : q = some ⟨p, off + pos, none⟩ ∧ c = cap - pos := by
      rcases h.at' with h | h
      · exact h
      · exact absurd h h8
    have hrp : RdA W (some ⟨p, off + pos, none⟩) (xs.drop pos) := by
      have := rdA_part hr pos (xs.drop pos).length
      rwa [List.take_of_length_le (Nat.le_refl _)] at this
    have hlen : (xs.drop pos).length = m := by rw [List.length_drop]; omega
    have := first_long p (off + pos) (cap - pos) (xs.drop pos) W (fun y hy => hx y (List.mem_of_mem_drop hy)) (by omega) (by omega) (by omega) hrp
    rw [hlen] at this
    refine this.mono ?_
    rintro e w' ⟨rfl, hb⟩
    by_cases h0 : fstR (xs.drop pos) = []
    · exact ⟨none, 0, 0, by rw [if_pos h0], by rw [h0]; rfl, fun h => absurd h (by omega), hb⟩
    · exact ⟨_, _, _, by rw [if_neg h0], rfl, fun _ => ⟨by rw [Nat.add_assoc], by omega⟩, hb⟩
set_option maxRecDepth 100000 in
set_option maxHeartbeats 2000000 in
theorem records1_in (n : Nat) (hn : 1 ≤ n) (l Bn n₀ cap p off : Nat) (a : Option Addr) (xs : List Nat) (E : Nat → Prop) (J Jx : List (RI xs) → World → Prop)
    (hx : ∀ y ∈ xs, y < 256) (hl : xs.length ≤ 1000000000) (hcap : xs.length ≤ cap) (ha : a = some ⟨p, off, none⟩ ∨ xs.length < 8)
    (W : World) (hJa : AbidesFrom W.heap.size J)
    (hY : ∀ pre x W, J pre W → pre.length < (its xs.length 0 xs).length → YieldAt Fence.wide (n - 1) Tryz.prog l (encR p off cap xs x) W fun e W' =>
      (e = .returned (.bool true) ∧ J (pre ++ [x]) W' ∧ KeepBut E n₀ W W') ∨ (e = .returned (.bool false) ∧ Jx (pre ++ [x]) W'))
    (hB : W.cell? ⟨Bn, 0, none⟩ = some (.slice a xs.length cap))
    (hr : RdA W (some ⟨p, off, none⟩) xs) (l0 : n₀ ≤ W.heap.size) (l2 : xs ≠ [] → p < n₀) (e2 : xs ≠ [] → ¬ E p) (hJ : J [] W) :
    CallsIn Fence.wide n Tryz.prog 109 #[.func (.yield l) #[] #[], .pointer (some ⟨Bn, 0, none⟩)] W fun e W' => (∃ v, e = .returned v) ∧
      ((∃ ys, vals ys = its xs.length 0 xs ∧ J ys W') ∨ (∃ pre, True ∧ Jx pre W')) := by
  have HF : Hid (∀ (wr : World) (pos : Nat) (q : Option Addr) (m c : Nat), KeepBut E n₀ W wr → RestAt p off cap xs pos q m c → Calls Tryz.prog 110 #[.slice q m c] wr fun e w' => ∃ v k d, e = .returned (.slice v k d) ∧ k = (fstR (xs.drop pos)).length ∧ (0 < k → v = some ⟨p, off + (pos + 8), none⟩ ∧ d = cap - (pos + 8)) ∧ Below wr.heap.size wr w') := fun wr pos q m c hk hq => by
    refine first_rest hq hx hl hcap ?_
    by_cases h0 : xs = []
    · exact .inl h0
    · exact rdA_keepBut hr hk (fun q e => by cases e; exact l2 h0) (fun q e => by cases e; exact e2 h0)
  have HR0 : Hid (RestAt p off cap xs 0 a xs.length cap) := ⟨rfl, Nat.zero_le _, by rcases ha with rfl | h; exact .inl ⟨rfl, rfl⟩; exact .inr h⟩
  refine callsIn_of_wp Tryz.func109 rfl trivial ?_ rfl
  simp only [Tryz.ntmps109, List.size_toArray, List.length_cons, List.length_nil, Nat.reduceAdd, Nat.reduceSub, Array.replicate_succ, Array.replicate_zero, List.push_toArray, List.append_toArray, List.nil_append, List.cons_append]
  clear hr
  gi_wp2
  gi_loopw [3] (fun i wr => ∃ (pre : List (RI xs)) (pos f : Nat) (q : Option Addr) (m c : Nat), i = .slice q m c ∧ RestAt p off cap xs pos q m c ∧ Its xs (vals pre) pos f ∧ J pre wr ∧ KeepBut E n₀ W wr)
    (fun i _ => match i with | .slice _ m _ => m | _ => 0)
  case atStart => exact ⟨[], 0, xs.length, a, xs.length, cap, rfl, HR0.out, ⟨rfl, by simp⟩, hJ, KeepBut.refl⟩
  case round =>
    obtain ⟨pre, pos, f, q, m, c, rfl, hR, hI, hJs, hnx⟩ := hrel
    have HW := hide (HF.out wr pos q m c hnx hR)
    have HI := hide hI
    have HRR := hide hR
    have HN := hide hnx
    have HJS := hide hJs
    clear hR hI hnx hJs
    gi_wp2_with fail
    refine ⟨trivial, (callsIn_wide.2 HW.out).mono ?_⟩
    rintro e w5 ⟨v, k, d, rfl, hk, hv, hb⟩
    have J5 := hide (hJa pre wr w5 none HJS.out (grown_of_below hb) (fun r e => by cases e))
    have N5 := hide (HN.out.t (KeepBut.ofBelow hb (Nat.le_trans l0 HN.out.1)))
    clear hb HW HJS HN
    by_cases h0 : k = 0
    · subst h0
      have hE : vals pre = its xs.length 0 xs := HI.out.stop (List.length_eq_zero_iff.1 hk.symm)
      clear hk hv hY
      gi_wp2
      refine ⟨fun f h => by (cases h), ?_⟩
      rename_i hK _ _ _ _
      refine hK _ _ ?_
      clear hK
      gi_wp2
      refine bodyPost_ret (results_none rfl _ _ _) rfl ?_
      exact ⟨⟨_, rfl⟩, .inl ⟨_, hE, J5.out⟩⟩
    · obtain ⟨rfl, rfl⟩ := hv (by omega)
      have hne : fstR (xs.drop pos) ≠ [] := fun e => h0 (by rw [hk, e]; rfl)
      obtain ⟨hI2, hlt⟩ := HI.out.step hne
      rw [vals_length] at hlt
      have hI3 : Its xs (vals (pre ++ [mkRI xs pos hne])) (pos + (8 + (fstR (xs.drop pos)).length)) (f - 1) := by rw [vals_snoc]; exact hI2
      have hfl := fstR_le _ hne
      rw [List.length_drop] at hfl
      obtain ⟨fn, tmps, assign, body, hy, hYR⟩ := hY _ (mkRI xs pos hne) w5 J5.out hlt
      dsimp only [encR, mkRI] at hy
      rw [← hk] at hy hI3 hfl
      have HI2 := hide hI3
      have hm := HRR.out.len
      have hle := HRR.out.le
      have h0I : (k = 0) = False := by simp; omega
      obtain ⟨L, hL⟩ : ∃ L, L = 8 + k := ⟨_, rfl⟩
      have hLw : IntKind.i64.wrap (8 + (k : Int)) = L := by rw [IntKind.wrap_i64]; omega
      have hLm : (L : Int) ≤ (m : Int) := by omega
      obtain ⟨rfl, rfl⟩ : q = some ⟨p, off + pos, none⟩ ∧ c = cap - pos := by
        rcases HRR.out.at' with h | h
        · exact h
        · omega
      have HK := hide hk
      have HL := hide hL
      have HM := hide hm
      have HLE := hide hle
      have HFL := hide hfl
      clear hI2 hI3 hlt hfl hk hv hL hm hle hY
      gi_wp2
      refine hYR.mono ?_
      rintro e W3 (⟨rfl, hJ3, hk3⟩ | ⟨rfl, hJx3⟩)
      · have HJ3 := hide hJ3
        have N3 := hide (N5.out.t hk3)
        clear hJ3 hk3 hYR
        obtain ⟨c, hc⟩ : ∃ c, c = cap - pos := ⟨_, rfl⟩
        rw [← hc]
        have hmc : m ≤ c := by have := HM.out; have := HLE.out; omega
        have HC := hide hc
        have HMC := hide hmc
        clear hc hmc
        by_cases hLc : c = L
        · gi_wp2
          have := HL.out; have := HM.out; have := HLE.out; have := HMC.out; have := HFL.out.1; have := HFL.out.2.2.1
          exact ⟨⟨_, pos + (8 + k), f - 1, _, _, _, rfl, ⟨by omega, by omega, .inr (by omega)⟩, HI2.out, HJ3.out, N3.out⟩, show m - L < m by omega⟩
        · gi_wp2
          have := HL.out; have := HM.out; have := HLE.out; have := HMC.out; have := HFL.out.1; have := HFL.out.2.2.1; have := HC.out
          exact ⟨⟨_, pos + (8 + k), f - 1, _, _, _, rfl, ⟨by omega, by omega, .inl ⟨by rw [HL.out, Nat.add_assoc], by omega⟩⟩, HI2.out, HJ3.out, N3.out⟩, show m - L < m by omega⟩
      · gi_wp2
        refine bodyPost_ret (results_none rfl _ _ _) rfl ?_
        exact ⟨⟨_, rfl⟩, .inr ⟨_, trivial, hJx3⟩⟩
theorem records_stops (n : Nat) (hn : 1 ≤ n) (Bn n₀ cap p off : Nat) (a : Option Addr) (xs : List Nat) (E : Nat → Prop) (w : World)
    (hx : ∀ y ∈ xs, y < 256) (hl : xs.length ≤ 1000000000) (hcap : xs.length ≤ cap) (ha : a = some ⟨p, off, none⟩ ∨ xs.length < 8) (hB : w.cell? ⟨Bn, 0, none⟩ = some (.slice a xs.length cap)) (hr : RdA w (some ⟨p, off, none⟩) xs)
    (hn₀ : n₀ ≤ w.heap.size) (l1 : Bn < n₀) (l2 : xs ≠ [] → p < n₀) (e2 : xs ≠ [] → ¬ E p) :
    SeqStopsK Fence.wide n Tryz.prog 109 #[.pointer (some ⟨Bn, 0, none⟩)] (encR p off cap xs) (KeepBut E n₀) (fun ys => vals ys = its xs.length 0 xs) (fun _ => True) (its xs.length 0 xs).length w := fun l J Jx W hW hJa _ hY hJ =>
  records1_in n hn l Bn n₀ cap p off a xs E J Jx hx hl hcap ha W hJa hY ((hW.cell (p := ⟨Bn, 0, none⟩) (by show Bn < _; omega)).trans hB) (hr.below hW) (Nat.le_trans hn₀ hW.size) l2 e2 hJ
theorem records_any (a : Option Addr) (n cap : Nat) (w : World) : Calls Tryz.prog 12 #[.slice a n cap] w fun e w' => e = .returned (.func (.func 109) #[] #[.pointer (some ⟨w.heap.size, 0, none⟩)]) ∧ w' = w.alloc (.cells #[.slice a n cap] 22) := by
  go_enter Tryz.func12, Tryz.ntmps12
  go_wp2
  go_ret
  exact ⟨rfl, rfl⟩
end Go.Proofs.YtpgkohimcofjnaaGreatDoor
