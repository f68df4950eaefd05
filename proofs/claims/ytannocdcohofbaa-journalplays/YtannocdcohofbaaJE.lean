/- package journal: the records one by one. -/
import Derived.Test.YtannocdcohofbaaJD
import Derived.Test.YtannocdcohofbaaKeep
namespace Go.Proofs.Ytannocdcohofbaa
open Go.RowKit Go.Shelf

attribute [local go_sem] Oper.semAt_some
/- A record and its place among bytes. -/
def RI (xs : List Nat) : Type := { x : Nat × List Nat // x.1 + 8 + x.2.length ≤ xs.length ∧ x.2 = (xs.drop (x.1 + 8)).take x.2.length ∧ okR x.2 }
def encR (p off cap : Nat) (xs : List Nat) (x : RI xs) : Array Value := #[.slice (some ⟨p, off + (x.1.1 + 8), none⟩) x.1.2.length (cap - (x.1.1 + 8))]
def vals {xs : List Nat} (l : List (RI xs)) : List (Nat × List Nat) := l.map (·.1)
theorem vals_snoc {xs : List Nat} (l : List (RI xs)) (x : RI xs) : vals (l ++ [x]) = vals l ++ [x.1] := by simp [vals]
theorem vals_length {xs : List Nat} (l : List (RI xs)) : (vals l).length = l.length := by simp [vals]
def mkRI (xs : List Nat) (pos : Nat) (h : fstR (xs.drop pos) ≠ []) : RI xs := ⟨(pos, fstR (xs.drop pos)), by
  have h1 := fstR_le _ h
  rw [List.length_drop, List.drop_drop] at h1
  exact ⟨by show pos + 8 + (fstR (xs.drop pos)).length ≤ xs.length; omega, h1.2.2.2, ⟨h1.1, h1.2.1⟩⟩⟩
theorem grown_of_below {W W' : World} (h : Below W.heap.size W W') : W.grownBy W' none := ⟨h.os, h.tape, h.output, h.size, fun b hb _ => h.block b hb⟩
theorem rdA_keepBut {E : Nat → Prop} {n₀ : Nat} {W W' : World} {a : Option Addr} {xs : List Nat} (h : RdA W a xs) (hk : KeepBut E n₀ W W') (l2 : ∀ q, a = some q → q.block < n₀) (e2 : ∀ q, a = some q → ¬ E q.block) : RdA W' a xs := by
  rcases h with h | ⟨p, off, rfl, hp, hc⟩
  · exact .inl h
  · exact .inr ⟨p, off, rfl, Nat.lt_of_lt_of_le hp hk.1, fun i hi => (hk.cell (p := ⟨p, off + i, none⟩) (l2 ⟨p, off, none⟩ rfl) (e2 ⟨p, off, none⟩ rfl)).trans (hc i hi)⟩
/- The rest of the bytes, as a slice. -/
structure RestAt (p off cap : Nat) (xs : List Nat) (pos : Nat) (q : Option Addr) (m c : Nat) : Prop where
  len : m = xs.length - pos
  le : pos ≤ xs.length
  at' : (q = some ⟨p, off + pos, none⟩ ∧ c = cap - pos) ∨ m < 8
structure Its (xs : List Nat) (pre : List (Nat × List Nat)) (pos f : Nat) : Prop where
  eq : pre ++ its f pos (xs.drop pos) = its xs.length 0 xs
  fu : (xs.drop pos).length ≤ f
theorem Its.stop {xs : List Nat} {pre : List (Nat × List Nat)} {pos f : Nat} (h : Its xs pre pos f) (hn : fstR (xs.drop pos) = []) : pre = its xs.length 0 xs := by
  have := h.eq
  rw [its_stop _ _ _ hn, List.append_nil] at this
  exact this
theorem Its.step {xs : List Nat} {pre : List (Nat × List Nat)} {pos f : Nat} (h : Its xs pre pos f) (hn : fstR (xs.drop pos) ≠ []) : Its xs (pre ++ [(pos, fstR (xs.drop pos))]) (pos + (8 + (fstR (xs.drop pos)).length)) (f - 1) ∧ pre.length < (its xs.length 0 xs).length := by
  have h1 := h.eq
  rw [its_step _ _ _ h.fu hn, List.drop_drop] at h1
  refine ⟨⟨by rw [List.append_assoc]; exact h1, ?_⟩, ?_⟩
  · have := fstR_le _ hn
    have h2 := h.fu
    rw [List.length_drop] at h2 ⊢
    rw [List.length_drop] at this
    omega
  · rw [← h1]; simp
theorem first_rest {W : World} {p off cap pos m c : Nat} {xs : List Nat} {q : Option Addr} (h : RestAt p off cap xs pos q m c) (hx : ∀ y ∈ xs, y < 256) (hl : xs.length ≤ 1000000000) (hcap : xs.length ≤ cap) (hr : RdA W (some ⟨p, off, none⟩) xs) :
    Calls Try.prog 51 #[.slice q m c] W fun e w' => ∃ v k d, e = .returned (.slice v k d) ∧ k = (fstR (xs.drop pos)).length ∧ (0 < k → v = some ⟨p, off + (pos + 8), none⟩ ∧ d = cap - (pos + 8)) ∧ Below W.heap.size W w' := by
  have hm := h.len
  have hle := h.le
  by_cases h8 : m < 8
  · refine (first_short q m c W h8).mono ?_
    rintro e w' ⟨rfl, rfl⟩
    refine ⟨none, 0, 0, rfl, ?_, fun h => absurd h (by omega), Below.refl _ _⟩
    rw [fstR_no (fun k => by have := k.1; rw [List.length_drop] at this; omega)]; rfl
  · obtain ⟨rfl, rfl⟩ : q = some ⟨p, off + pos, none⟩ ∧ c = cap - pos := by
      rcases h.at' with h | h
      · exact h
      · exact absurd h h8
    have hrp : RdA W (some ⟨p, off + pos, none⟩) (xs.drop pos) := by
      have := rdA_part hr pos (xs.drop pos).length
      rwa [List.take_of_length_le (Nat.le_refl _)] at this
    have hlen : (xs.drop pos).length = m := by rw [List.length_drop]; omega
    have := first_long p (off + pos) (cap - pos) (xs.drop pos) W (fun y hy => hx y (List.mem_of_mem_drop hy)) (by omega) (by omega) (by omega) hrp
    rw [hlen] at this
    refine this.mono ?_
    rintro e w' ⟨rfl, hb⟩
    by_cases h0 : fstR (xs.drop pos) = []
    · exact ⟨none, 0, 0, by rw [if_pos h0], by rw [h0]; rfl, fun h => absurd h (by omega), hb⟩
    · exact ⟨_, _, _, by rw [if_neg h0], rfl, fun _ => ⟨by rw [Nat.add_assoc], by omega⟩, hb⟩
set_option maxRecDepth 100000 in
set_option maxHeartbeats 2000000 in
theorem records1_in (n : Nat) (hn : 1 ≤ n) (l Bn n₀ cap p off : Nat) (a : Option Addr) (xs : List Nat) (E : Nat → Prop) (J Jx : List (RI xs) → World → Prop)
    (hx : ∀ y ∈ xs, y < 256) (hl : xs.length ≤ 1000000000) (hcap : xs.length ≤ cap) (ha : a = some ⟨p, off, none⟩ ∨ xs.length < 8)
    (W : World) (hJa : AbidesFrom W.heap.size J)
    (hY : ∀ pre x W, J pre W → pre.length < (its xs.length 0 xs).length → YieldAt Fence.wide (n - 1) Try.prog l (encR p off cap xs x) W fun e W' =>
      (e = .returned (.bool true) ∧ J (pre ++ [x]) W' ∧ KeepBut E n₀ W W') ∨ (e = .returned (.bool false) ∧ Jx (pre ++ [x]) W'))
    (hB : W.cell? ⟨Bn, 0, none⟩ = some (.slice a xs.length cap))
    (hr : RdA W (some ⟨p, off, none⟩) xs) (l0 : n₀ ≤ W.heap.size) (l2 : xs ≠ [] → p < n₀) (e2 : xs ≠ [] → ¬ E p) (hJ : J [] W) :
    CallsIn Fence.wide n Try.prog 50 #[.func (.yield l) #[] #[], .pointer (some ⟨Bn, 0, none⟩)] W fun e W' => (∃ v, e = .returned v) ∧
      ((∃ ys, vals ys = its xs.length 0 xs ∧ J ys W') ∨ (∃ pre, True ∧ Jx pre W')) := by
  have HF : Hid (∀ (wr : World) (pos : Nat) (q : Option Addr) (m c : Nat), KeepBut E n₀ W wr → RestAt p off cap xs pos q m c → Calls Try.prog 51 #[.slice q m c] wr fun e w' => ∃ v k d, e = .returned (.slice v k d) ∧ k = (fstR (xs.drop pos)).length ∧ (0 < k → v = some ⟨p, off + (pos + 8), none⟩ ∧ d = cap - (pos + 8)) ∧ Below wr.heap.size wr w') := fun wr pos q m c hk hq => by
    refine first_rest hq hx hl hcap ?_
    by_cases h0 : xs = []
    · exact .inl h0
    · exact rdA_keepBut hr hk (fun q e => by cases e; exact l2 h0) (fun q e => by cases e; exact e2 h0)
  have HR0 : Hid (RestAt p off cap xs 0 a xs.length cap) := ⟨rfl, Nat.zero_le _, by rcases ha with rfl | h; exact .inl ⟨rfl, rfl⟩; exact .inr h⟩
  refine callsIn_of_wp Try.func50 rfl trivial ?_ rfl
  simp only [Try.ntmps50, List.size_toArray, List.length_cons, List.length_nil, Nat.reduceAdd, Nat.reduceSub, Array.replicate_succ, Array.replicate_zero, List.push_toArray, List.append_toArray, List.nil_append, List.cons_append]
  clear hr
  gi_wp2
  gi_loopw [3] (fun i wr => ∃ (pre : List (RI xs)) (pos f : Nat) (q : Option Addr) (m c : Nat), i = .slice q m c ∧ RestAt p off cap xs pos q m c ∧ Its xs (vals pre) pos f ∧ J pre wr ∧ KeepBut E n₀ W wr)
    (fun i _ => match i with | .slice _ m _ => m | _ => 0)
  case atStart => exact ⟨[], 0, xs.length, a, xs.length, cap, rfl, HR0.out, ⟨rfl, by simp⟩, hJ, KeepBut.refl⟩
  case round =>
    obtain ⟨pre, pos, f, q, m, c, rfl, hR, hI, hJs, hnx⟩ := hrel
    have HW := hide (HF.out wr pos q m c hnx hR)
    have HI := hide hI
    have HRR := hide hR
    have HN := hide hnx
    have HJS := hide hJs
    clear hR hI hnx hJs
    gi_wp2_with fail
    refine ⟨trivial, (callsIn_wide.2 HW.out).mono ?_⟩
    rintro e w5 ⟨v, k, d, rfl, hk, hv, hb⟩
    have J5 := hide (hJa pre wr w5 none HJS.out (grown_of_below hb) (fun r e => by cases e))
    have N5 := hide (HN.out.t (KeepBut.ofBelow hb (Nat.le_trans l0 HN.out.1)))
    clear hb HW HJS HN
    by_cases h0 : k = 0
    · subst h0
      have hE : vals pre = its xs.length 0 xs := HI.out.stop (List.length_eq_zero_iff.1 hk.symm)
      clear hk hv hY
      gi_wp2
      refine ⟨fun f h => by (cases h), ?_⟩
      rename_i hK _ _ _ _
      refine hK _ _ ?_
      clear hK
      gi_wp2
      refine bodyPost_ret (results_none rfl _ _ _) rfl ?_
      exact ⟨⟨_, rfl⟩, .inl ⟨_, hE, J5.out⟩⟩
    · obtain ⟨rfl, rfl⟩ := hv (by omega)
      have hne : fstR (xs.drop pos) ≠ [] := fun e => h0 (by rw [hk, e]; rfl)
      obtain ⟨hI2, hlt⟩ := HI.out.step hne
      rw [vals_length] at hlt
      have hI3 : Its xs (vals (pre ++ [mkRI xs pos hne])) (pos + (8 + (fstR (xs.drop pos)).length)) (f - 1) := by rw [vals_snoc]; exact hI2
      have hfl := fstR_le _ hne
      rw [List.length_drop] at hfl
      obtain ⟨fn, tmps, assign, body, hy, hYR⟩ := hY _ (mkRI xs pos hne) w5 J5.out hlt
      dsimp only [encR, mkRI] at hy
      rw [← hk] at hy hI3 hfl
      have HI2 := hide hI3
      have hm := HRR.out.len
      have hle := HRR.out.le
      have h0I : (k = 0) = False := by simp; omega
      obtain ⟨L, hL⟩ : ∃ L, L = 8 + k := ⟨_, rfl⟩
      have hLw : IntKind.i64.wrap (8 + (k : Int)) = L := by rw [IntKind.wrap_i64]; omega
      have hLm : (L : Int) ≤ (m : Int) := by omega
      obtain ⟨rfl, rfl⟩ : q = some ⟨p, off + pos, none⟩ ∧ c = cap - pos := by
        rcases HRR.out.at' with h | h
        · exact h
        · omega
      have HK := hide hk
      have HL := hide hL
      have HM := hide hm
      have HLE := hide hle
      have HFL := hide hfl
      clear hI2 hI3 hlt hfl hk hv hL hm hle hY
      gi_wp2
      refine hYR.mono ?_
      rintro e W3 (⟨rfl, hJ3, hk3⟩ | ⟨rfl, hJx3⟩)
      · have HJ3 := hide hJ3
        have N3 := hide (N5.out.t hk3)
        clear hJ3 hk3 hYR
        obtain ⟨c, hc⟩ : ∃ c, c = cap - pos := ⟨_, rfl⟩
        rw [← hc]
        have hmc : m ≤ c := by have := HM.out; have := HLE.out; omega
        have HC := hide hc
        have HMC := hide hmc
        clear hc hmc
        by_cases hLc : c = L
        · gi_wp2
          have := HL.out; have := HM.out; have := HLE.out; have := HMC.out; have := HFL.out.1; have := HFL.out.2.2.1
          exact ⟨⟨_, pos + (8 + k), f - 1, _, _, _, rfl, ⟨by omega, by omega, .inr (by omega)⟩, HI2.out, HJ3.out, N3.out⟩, show m - L < m by omega⟩
        · gi_wp2
          have := HL.out; have := HM.out; have := HLE.out; have := HMC.out; have := HFL.out.1; have := HFL.out.2.2.1; have := HC.out
          exact ⟨⟨_, pos + (8 + k), f - 1, _, _, _, rfl, ⟨by omega, by omega, .inl ⟨by rw [HL.out, Nat.add_assoc], by omega⟩⟩, HI2.out, HJ3.out, N3.out⟩, show m - L < m by omega⟩
      · gi_wp2
        refine bodyPost_ret (results_none rfl _ _ _) rfl ?_
        exact ⟨⟨_, rfl⟩, .inr ⟨_, trivial, hJx3⟩⟩
theorem records_stops (n : Nat) (hn : 1 ≤ n) (Bn n₀ cap p off : Nat) (a : Option Addr) (xs : List Nat) (E : Nat → Prop) (w : World)
    (hx : ∀ y ∈ xs, y < 256) (hl : xs.length ≤ 1000000000) (hcap : xs.length ≤ cap) (ha : a = some ⟨p, off, none⟩ ∨ xs.length < 8) (hB : w.cell? ⟨Bn, 0, none⟩ = some (.slice a xs.length cap)) (hr : RdA w (some ⟨p, off, none⟩) xs)
    (hn₀ : n₀ ≤ w.heap.size) (l1 : Bn < n₀) (l2 : xs ≠ [] → p < n₀) (e2 : xs ≠ [] → ¬ E p) :
    SeqStopsK Fence.wide n Try.prog 50 #[.pointer (some ⟨Bn, 0, none⟩)] (encR p off cap xs) (KeepBut E n₀) (fun ys => vals ys = its xs.length 0 xs) (fun _ => True) (its xs.length 0 xs).length w := fun l J Jx W hW hJa _ hY hJ =>
  records1_in n hn l Bn n₀ cap p off a xs E J Jx hx hl hcap ha W hJa hY ((hW.cell (p := ⟨Bn, 0, none⟩) (by show Bn < _; omega)).trans hB) (hr.below hW) (Nat.le_trans hn₀ hW.size) l2 e2 hJ
theorem records_any (a : Option Addr) (n cap : Nat) (w : World) : Calls Try.prog 43 #[.slice a n cap] w fun e w' => e = .returned (.func (.func 50) #[] #[.pointer (some ⟨w.heap.size, 0, none⟩)]) ∧ w' = w.alloc (.cells #[.slice a n cap] 31) := by
  go_enter Try.func43, Try.ntmps43
  go_wp2
  go_ret
  exact ⟨rfl, rfl⟩
end Go.Proofs.Ytannocdcohofbaa
