/- Words of bytes: wordAt, the iterator words, slices.Values of words. -/
import Derived.Test.YtaekdnoondpgnaaSuBase
import Derived.Test.YtaekdnoondpgnaaKeep
namespace Go.Proofs.Ytaekdnoondpgnaa
open Go.RowKit Go.Shelf

theorem word_or (x y : Nat) (hx : x < 256) (hy : y < 256) : bits .or .u16 ((x : Int) * 256) (y : Int) = ((256 * x + y : Nat) : Int) := by
  have e : ((x : Int) * 256) = ((256 * x : Nat) : Int) := by omega
  rw [e, u16_or_nat _ _ (by omega) (by omega)]
  have h := Nat.two_pow_add_eq_or_of_lt (i := 8) (b := y) hy x
  rw [show (2 : Nat) ^ 8 = 256 by decide] at h
  rw [h]
theorem getD_in (xs : List Nat) (i : Nat) (h : i < xs.length) : xs.getD i 0 = xs[i] := by rw [List.getD_eq_getElem?_getD, List.getElem?_eq_getElem h]; rfl
theorem getD_out (xs : List Nat) (i : Nat) (h : xs.length ≤ i) : xs.getD i 0 = 0 := by rw [List.getD_eq_getElem?_getD, List.getElem?_eq_none h]; rfl
set_option maxHeartbeats 400000 in
theorem wordAt_any (p off cap k : Nat) (xs : List Nat) (w : World) (hx : ∀ y ∈ xs, y < 256) (hl : xs.length < 140737488355328) (hk : k < xs.length)
    (hc : ∀ i (h : i < xs.length), w.cell? ⟨p, off + i, none⟩ = some (.int .u8 (xs[i] : Nat))) :
    Calls Try.prog 45 #[.slice (some ⟨p, off, none⟩) xs.length cap, .int .i64 k] w fun e w' => e = .returned (.int .u16 ((wordAt xs k : Nat) : Int)) ∧ w' = w := by
  have h0 := hc k hk
  have b0 : xs[k] < 256 := hx _ (List.getElem_mem hk)
  have hkI : (k : Int) < (xs.length : Int) := by omega
  by_cases h1 : k + 1 < xs.length
  · have h2 := hc (k + 1) h1
    have b1 : xs[k + 1] < 256 := hx _ (List.getElem_mem h1)
    have h1I : (k : Int) + 1 < (xs.length : Int) := by omega
    have HE : Hid (wordAt xs k = 256 * xs[k] + xs[k + 1]) := by show wordAt xs k = _; unfold wordAt; rw [getD_in _ _ hk, getD_in _ _ h1]
    have HO := hide (word_or xs[k] xs[k + 1] b0 b1)
    clear hc
    generalize xs[k] = x at *
    generalize xs[k + 1] = y at *
    go_enter Try.func45, Try.ntmps45
    go_wp2
    go_ret
    exact ⟨ret_int (by rw [HE.out]; exact HO.out), rfl⟩
  · have h1I : decide ((k : Int) + 1 < (xs.length : Int)) = false := by simp; omega
    have HE : Hid (wordAt xs k = 256 * xs[k]) := by show wordAt xs k = _; unfold wordAt; rw [getD_in _ _ hk, getD_out _ _ (by omega)]; omega
    clear hc
    generalize xs[k] = x at *
    go_enter Try.func45, Try.ntmps45
    go_wp2
    go_ret
    exact ⟨ret_int (by rw [HE.out]; omega), rfl⟩
attribute [local go_sem] Oper.semAt_some
abbrev W16 := { x : Nat // x < 65536 }
def w16 (n : Nat) : W16 := ⟨n % 65536, Nat.mod_lt _ (by decide)⟩
def encW (x : W16) : Array Value := #[.int .u16 ((x.1 : Nat) : Int)]
def upW (xs : List Nat) (k : Nat) : List W16 := (List.range k).map fun i => w16 (wordAt xs (2 * i))
theorem upW_succ (xs : List Nat) (k : Nat) : upW xs (k + 1) = upW xs k ++ [w16 (wordAt xs (2 * k))] := by simp [upW, List.range_succ]
theorem upW_length (xs : List Nat) (k : Nat) : (upW xs k).length = k := by simp [upW]
theorem upW_vals (xs : List Nat) (hx : ∀ y ∈ xs, y < 256) : (upW xs ((xs.length + 1) / 2)).map (·.1) = wordsOf xs := by
  apply List.ext_getElem
  · simp [upW, wordsOf_length]
  · intro i h1 h2
    rw [wordsOf_get]
    simp [upW, w16, Nat.mod_eq_of_lt (wordAt_lt xs _ hx)]
set_option maxRecDepth 100000 in
set_option maxHeartbeats 2000000 in
theorem words1_in (n : Nat) (hn : 1 ≤ n) (l Bn n₀ cap : Nat) (a : Option Addr) (xs : List Nat) (E : Nat → Prop) (J Jx : List W16 → World → Prop)
    (hx : ∀ y ∈ xs, y < 256) (hl : xs.length < 140737488355328)
    (hY : ∀ pre x W, J pre W → pre.length < (xs.length + 1) / 2 → YieldAt Fence.wide (n - 1) Try.prog l (encW x) W fun e W' =>
      (e = .returned (.bool true) ∧ J (pre ++ [x]) W' ∧ KeepBut E n₀ W W') ∨ (e = .returned (.bool false) ∧ Jx (pre ++ [x]) W'))
    (W : World) (hB : W.cell? ⟨Bn, 0, none⟩ = some (.slice a xs.length cap))
    (hr : RdA W a xs) (l1 : Bn < n₀) (l2 : ∀ q, a = some q → q.block < n₀) (e1 : ¬ E Bn) (e2 : ∀ q, a = some q → ¬ E q.block) (hJ : J [] W) :
    CallsIn Fence.wide n Try.prog 44 #[.func (.yield l) #[] #[], .pointer (some ⟨Bn, 0, none⟩)] W fun e W' => (∃ v, e = .returned v) ∧
      ((∃ ys, ys = upW xs ((xs.length + 1) / 2) ∧ J ys W') ∨ (∃ pre, True ∧ Jx pre W')) := by
  refine callsIn_of_wp Try.func44 rfl trivial ?_ rfl
  simp only [Try.ntmps44, List.size_toArray, List.length_cons, List.length_nil, Nat.reduceAdd, Nat.reduceSub, Array.replicate_succ, Array.replicate_zero, List.push_toArray, List.append_toArray, List.nil_append, List.cons_append]
  have HR := hide hr
  clear hr
  gi_wp2
  gi_loopw [3] (fun i wr => ∃ j : Nat, j ≤ (xs.length + 1) / 2 ∧ i = .int .i64 (2 * j : Nat) ∧ J (upW xs j) wr ∧ KeepBut E n₀ W wr)
    (fun i _ => 2 * xs.length + 2 - (intOf i).toNat)
  case atStart => exact ⟨0, Nat.zero_le _, rfl, hJ, KeepBut.refl⟩
  case round =>
    obtain ⟨j, hj, rfl, hJs, hnx⟩ := hrel
    have c1 : wr.cell? ⟨Bn, 0, none⟩ = some (.slice a xs.length cap) := (hnx.cell (p := ⟨Bn, 0, none⟩) l1 e1).trans hB
    obtain ⟨T, hT⟩ : ∃ T, T = 2 * j := ⟨_, rfl⟩
    rw [← hT]
    by_cases hlt : T < xs.length
    · obtain ⟨p, off, rfl, hp, hcell⟩ := HR.out.some (by omega)
      have hp1 : p < n₀ := l2 _ rfl
      have hp2 : ¬ E p := e2 _ rfl
      have HW := hide (wordAt_any p off cap T xs wr hx hl hlt (fun i hi => (hnx.cell (p := ⟨p, off + i, none⟩) hp1 hp2).trans (hcell i hi)))
      have hTI : (T : Int) < (xs.length : Int) := by omega
      obtain ⟨fn, tmps, assign, body, hy, hR⟩ := hY _ (w16 (wordAt xs (2 * j))) wr hJs (by rw [upW_length]; omega)
      dsimp only [encW] at hy
      have hv : (w16 (wordAt xs (2 * j))).1 = wordAt xs (2 * j) := Nat.mod_eq_of_lt (wordAt_lt xs _ hx)
      rw [hv, ← hT] at hy
      rw [← upW_succ] at hR
      have HT := hide hT
      have HN := hide hnx
      clear hcell hT hnx hv
      generalize wordAt xs T = v at *
      gi_wp2_with fail
      refine ⟨trivial, (callsIn_wide.2 HW.out).mono ?_⟩
      rintro e w' ⟨rfl, rfl⟩
      clear HW
      gi_wp2
      refine hR.mono ?_
      rintro e W3 (⟨rfl, hJ3, hk3⟩ | ⟨rfl, hJx3⟩)
      · gi_wp2
        go_roundw
        case rel => exact ⟨j + 1, by have := HT.out; omega, by have := HT.out; rw [show 2 * (j + 1) = T + 2 by omega]; go_num, hJ3, HN.out.t hk3⟩
        case measure => have := HT.out; simp [intOf]; omega
      · gi_wp2
        refine bodyPost_ret (results_none rfl _ _ _) rfl ?_
        exact ⟨⟨_, rfl⟩, .inr ⟨_, trivial, hJx3⟩⟩
    · have hTI : decide ((T : Int) < (xs.length : Int)) = false := by simp; omega
      obtain rfl : j = (xs.length + 1) / 2 := by omega
      have HT := hide hT
      clear hT hY
      gi_wp2
      go_end0
      exact ⟨⟨_, rfl⟩, .inl ⟨_, rfl, hJs⟩⟩
theorem words_stops (n : Nat) (hn : 1 ≤ n) (Bn n₀ cap : Nat) (a : Option Addr) (xs : List Nat) (E : Nat → Prop) (w : World)
    (hx : ∀ y ∈ xs, y < 256) (hl : xs.length < 140737488355328) (hB : w.cell? ⟨Bn, 0, none⟩ = some (.slice a xs.length cap)) (hr : RdA w a xs)
    (hn₀ : n₀ ≤ w.heap.size) (l1 : Bn < n₀) (l2 : ∀ q, a = some q → q.block < n₀) (e1 : ¬ E Bn) (e2 : ∀ q, a = some q → ¬ E q.block) :
    SeqStopsK Fence.wide n Try.prog 44 #[.pointer (some ⟨Bn, 0, none⟩)] encW (KeepBut E n₀) (fun ys => ys = upW xs ((xs.length + 1) / 2)) (fun _ => True) ((xs.length + 1) / 2) w := fun l J Jx W hW hJa _ hY hJ =>
  words1_in n hn l Bn n₀ cap a xs E J Jx hx hl hY W ((hW.cell (p := ⟨Bn, 0, none⟩) (by show Bn < _; omega)).trans hB) (hr.below hW) l1 l2 e1 e2 hJ
/- Three words, by slices.Values. -/
def Rd16 (W : World) (p : Nat) (vs : List Nat) : Prop := ∀ i (h : i < vs.length), W.cell? ⟨p, i, none⟩ = some (.int .u16 (vs[i] : Nat))
def upV (vs : List Nat) (k : Nat) : List W16 := (List.range k).map fun i => w16 (vs.getD i 0)
theorem upV_succ (vs : List Nat) (k : Nat) : upV vs (k + 1) = upV vs k ++ [w16 (vs.getD k 0)] := by simp [upV, List.range_succ]
theorem upV_length (vs : List Nat) (k : Nat) : (upV vs k).length = k := by simp [upV]
theorem upV_vals (vs : List Nat) (hv : ∀ y ∈ vs, y < 65536) : (upV vs vs.length).map (·.1) = vs := by
  apply List.ext_getElem
  · simp [upV]
  · intro i h1 h2
    have e := Nat.mod_eq_of_lt (hv _ (List.getElem_mem h2))
    simp [upV, w16, h2, e]
set_option maxRecDepth 100000 in
set_option maxHeartbeats 2000000 in
theorem values1_in (n : Nat) (hn : 1 ≤ n) (l Bn n₀ cap p : Nat) (vs : List Nat) (E : Nat → Prop) (J Jx : List W16 → World → Prop)
    (hv : ∀ y ∈ vs, y < 65536) (hl : vs.length < 140737488355328)
    (hY : ∀ pre x W, J pre W → pre.length < vs.length → YieldAt Fence.wide (n - 1) Try.prog l (encW x) W fun e W' =>
      (e = .returned (.bool true) ∧ J (pre ++ [x]) W' ∧ KeepBut E n₀ W W') ∨ (e = .returned (.bool false) ∧ Jx (pre ++ [x]) W'))
    (W : World) (hB : W.cell? ⟨Bn, 0, none⟩ = some (.slice (some ⟨p, 0, none⟩) vs.length cap))
    (hr : Rd16 W p vs) (l2 : p < n₀) (e2 : ¬ E p) (hJ : J [] W) :
    CallsIn Fence.wide n Try.prog 37 #[.func (.yield l) #[] #[], .pointer (some ⟨Bn, 0, none⟩)] W fun e W' => (∃ v, e = .returned v) ∧
      ((∃ ys, ys = upV vs vs.length ∧ J ys W') ∨ (∃ pre, True ∧ Jx pre W')) := by
  refine callsIn_of_wp Try.func37 rfl trivial ?_ rfl
  simp only [Try.ntmps37, List.size_toArray, List.length_cons, List.length_nil, Nat.reduceAdd, Nat.reduceSub, Array.replicate_succ, Array.replicate_zero, List.push_toArray, List.append_toArray, List.nil_append, List.cons_append]
  have HR := hide hr
  clear hr
  gi_wp2
  gi_loopw [7] (fun i wr => ∃ j : Nat, j ≤ vs.length ∧ i = .int .i64 j ∧ J (upV vs j) wr ∧ KeepBut E n₀ W wr)
    (fun i _ => vs.length - (intOf i).toNat)
  case atStart => exact ⟨0, Nat.zero_le _, rfl, hJ, KeepBut.refl⟩
  case round =>
    obtain ⟨j, hj, rfl, hJs, hnx⟩ := hrel
    by_cases hlt : j < vs.length
    · have hcell : wr.cell? ⟨p, j, none⟩ = some (.int .u16 (vs[j] : Nat)) := (hnx.cell (p := ⟨p, j, none⟩) l2 e2).trans (HR.out j hlt)
      have hjI : (j : Int) < (vs.length : Int) := by omega
      obtain ⟨fn, tmps, assign, body, hy, hR⟩ := hY _ (w16 (vs.getD j 0)) wr hJs (by rw [upV_length]; omega)
      dsimp only [encW] at hy
      have e : (w16 (vs.getD j 0)).1 = vs[j] := by rw [show (w16 (vs.getD j 0)).1 = vs.getD j 0 % 65536 from rfl, getD_in _ _ hlt]; exact Nat.mod_eq_of_lt (hv _ (List.getElem_mem hlt))
      rw [e] at hy
      rw [← upV_succ] at hR
      have HN := hide hnx
      clear hnx e hY
      generalize vs[j] = v at *
      gi_wp2
      refine hR.mono ?_
      rintro e W3 (⟨rfl, hJ3, hk3⟩ | ⟨rfl, hJx3⟩)
      · gi_wp2
        go_roundw
        case rel => exact ⟨j + 1, by omega, by go_num, hJ3, HN.out.t hk3⟩
        case measure => simp [intOf]; omega
      · gi_wp2
        refine bodyPost_ret (results_none rfl _ _ _) rfl ?_
        exact ⟨⟨_, rfl⟩, .inr ⟨_, trivial, hJx3⟩⟩
    · obtain rfl : j = vs.length := by omega
      clear hY
      gi_wp2
      go_end0
      exact ⟨⟨_, rfl⟩, .inl ⟨_, rfl, hJs⟩⟩
theorem values_stops (n : Nat) (hn : 1 ≤ n) (Bn n₀ cap p : Nat) (vs : List Nat) (E : Nat → Prop) (w : World)
    (hv : ∀ y ∈ vs, y < 65536) (hl : vs.length < 140737488355328) (hB : w.cell? ⟨Bn, 0, none⟩ = some (.slice (some ⟨p, 0, none⟩) vs.length cap)) (hr : Rd16 w p vs)
    (hn₀ : n₀ ≤ w.heap.size) (l1 : Bn < n₀) (l2 : p < n₀) (e2 : ¬ E p) :
    SeqStopsK Fence.wide n Try.prog 37 #[.pointer (some ⟨Bn, 0, none⟩)] encW (KeepBut E n₀) (fun ys => ys = upV vs vs.length) (fun _ => True) vs.length w := fun l J Jx W hW hJa _ hY hJ =>
  values1_in n hn l Bn n₀ cap p vs E J Jx hv hl hY W ((hW.cell (p := ⟨Bn, 0, none⟩) (by show Bn < _; omega)).trans hB) (fun i hi => (hW.cell (p := ⟨p, i, none⟩) (by show p < _; omega)).trans (hr i hi)) l2 e2 hJ
end Go.Proofs.Ytaekdnoondpgnaa
