/- Words added up, and folded; words held against one another. -/
import Derived.Test.YtaekdnoondpgnaaSuWord
namespace Go.Proofs.Ytaekdnoondpgnaa
open Go.RowKit Go.Shelf

attribute [local go_sem] Oper.semAt_some
def valAt (W : World) (b : Nat) : Nat := match W.cell? ⟨b, 0, none⟩ with
  | some (.int _ t) => t.toNat
  | _ => 0
theorem valAt_of {W : World} {b : Nat} {k : IntKind} {t : Int} (h : W.cell? ⟨b, 0, none⟩ = some (.int k t)) : valAt W b = t.toNat := by simp [valAt, h]
def vals (l : List W16) : List Nat := l.map (·.1)
theorem vals_snoc (l : List W16) (x : W16) : vals (l ++ [x]) = vals l ++ [x.1] := by simp [vals]
theorem vals_lt (l : List W16) : ∀ x ∈ vals l, x < 65536 := by
  intro x hx
  obtain ⟨y, _, rfl⟩ := List.mem_map.1 hx
  exact y.2
theorem vals_length (l : List W16) : (vals l).length = l.length := by simp [vals]
set_option maxRecDepth 100000 in
set_option maxHeartbeats 4000000 in
theorem added_any (gf : Nat) (lb : Array Value) (us : List W16) (N : Nat) (hN : N < 140737488355328) (hu : us.length = N) (w : World)
    (eg : ∀ args w, (callFunc gf args).run Try.prog w = .ok (.enter gf args) w)
    (hseq : SeqStopsK Fence.wide 5 Try.prog gf lb encW (KeepBut (fun b => b = w.heap.size) (w.heap.size + 1)) (fun ys => ys = us) (fun _ => True) N (w.alloc (.cells #[.int .u64 0] 25))) :
    Calls Try.prog 30 #[.func (.func gf) #[] lb] w fun e w' => e = .returned (.int .u16 ((fol (addW (vals us)) : Nat) : Int)) ∧ Below w.heap.size w w' := by
  refine (callsIn_wide (n := 6)).1 ?_
  refine callsIn_of_wp_marks Try.func30 rfl trivial ?_ rfl
  simp only [Try.ntmps30, List.size_toArray, List.length_cons, List.length_nil, Nat.reduceAdd, Nat.reduceSub, Array.replicate_succ, Array.replicate_zero, List.push_toArray, List.append_toArray, List.nil_append, List.cons_append]
  gi_wp2
  refine' wpIn_rangeFunc_ownF rfl (by omega) (gf := gf) (lb := lb) rfl trivial eg hseq
    KeepBut.t (KeepBut.b (by simp)) (Below.refl _ _) (fun _ => rfl)
    (fun pre W => LC W w.heap.size (.int .u64 ((addW (vals pre) : Nat) : Int)) ∧ Below w.heap.size w W)
    (fun _ _ _ => False)
    (OwnFrom.and (Own.from (fun s A B row hs hg hr => hs.kept hg hr) _) (ownFrom_below (Nat.le_refl _) (by simp)))
    (fun _ _ _ _ _ hs _ _ => hs)
    ⟨LC.new w _ _, (Below.refl _ w).alloc (Nat.le_refl _) _⟩ _ ?assign ?body ?done ?stop
  case assign =>
    intro l x W K hK
    dsimp only [encW]
    gi_wp2
    exact hK
  case stop =>
    rintro D c pre W _ _ h _
    exact h.elim
  case body =>
    rintro l pre ⟨x, hx⟩ W ⟨lT, hB⟩ hlen
    have hle := addW_le (vals pre) (vals_lt pre)
    rw [vals_length] at hle
    have hT : addW (vals pre) < 9223372036854775808 := by omega
    have EV : Hid (addW (vals (pre ++ [⟨x, hx⟩])) = addW (vals pre) + x) := by show _ = _; rw [vals_snoc, addW_snoc]
    have LT := hide lT; have HB := hide hB
    obtain ⟨h1, h2⟩ := lT
    clear hB hle
    generalize addW (vals pre) = T at *
    gi_wp2
    exact ⟨KeepsOthers.setCell _ _ _, KeepBut.refl.setCell _ _ rfl, (LT.out.set _).cast (by rw [EV.out]; simp), HB.out.setCell (Nat.le_refl _) _⟩
  case done =>
    rintro D ys W hD rfl ⟨lT, hB⟩ hK
    have hle := addW_le (vals ys) (vals_lt ys)
    rw [vals_length] at hle
    have hT : addW (vals ys) < 9223372036854775808 := by omega
    have hD2 : w.heap.size < D := by simp at hD; omega
    generalize hAT : addW (vals ys) = A at *
    have HA := hide hAT
    clear hAT hle
    gi_wp2
    gi_loopw [11] (fun _ wr => ∃ t : Nat, t < 9223372036854775808 ∧ fol t = fol A ∧ LC wr w.heap.size (.int .u64 (t : Int)) ∧ Below w.heap.size w wr ∧ wr.heap[D]? = some (.deferred (some []))) (fun _ wr => valAt wr w.heap.size)
    case atStart => exact ⟨A, hT, rfl, lT, hB, hK⟩
    case round =>
      obtain ⟨t, ht, hf, lt, hb, hk⟩ := hrel
      have HF := hide hf; have LT := hide lt; have HB := hide hb; have HK := hide hk
      obtain ⟨h1, h2⟩ := lt
      clear hf hb hk lT hB hK
      by_cases hlt : 65535 < t
      · gi_wp2
        refine ⟨⟨t % 65536 + t / 65536, by omega, by rw [fol_step hlt]; exact HF.out, (LT.out.set _).cast (by simp), HB.out.setCell (Nat.le_refl _) _, (KeepsOthers.setCell _ _ _).same D _ HK.out rfl⟩, ?_⟩
        rw [valAt_of (LT.out.set _).1, valAt_of LT.out.1]
        omega
      · gi_wp2
        refine ⟨by simp, .inl ⟨_, _, rfl, run_takeDeferred HK.out, ?_⟩⟩
        have e : fol (addW (vals ys)) = t := by rw [HA.out, ← HF.out, fol_small (by omega)]
        refine ⟨_, results_tmp rfl _ _ _, by rw [e]; rfl, HB.out.trans (belowK_b (w := w) (Nat.le_refl _) wr D _ _ (by omega) HK.out rfl rfl)⟩
theorem not16N (x : Nat) (h : x < 65536) : 65535 ^^^ x = 65535 - x := by
  refine Nat.eq_of_testBit_eq fun j => ?_
  have h1 : (65535 : Nat) = 2 ^ 16 - 1 := by decide
  have h2 : (65535 - x : Nat) = 2 ^ 16 - (x + 1) := by omega
  rw [h2, Nat.testBit_two_pow_sub_succ (by omega), h1, Nat.testBit_xor, Nat.testBit_two_pow_sub_one]
  by_cases hj : j < 16
  · simp [hj]
  · have : x.testBit j = false := Nat.testBit_lt_two_pow (Nat.lt_of_lt_of_le (by omega : x < 2 ^ 16) (Nat.pow_le_pow_right (by decide) (by omega)))
    simp [hj, this]
theorem not16 (x : Nat) (h : x < 65536) : bits .xor .u16 IntKind.u16.max (x : Int) = ((65535 - x : Nat) : Int) := by
  have e : IntKind.u16.max = ((65535 : Nat) : Int) := by decide
  rw [e, u16_xor_nat _ _ (by decide) h, not16N x h]
theorem words_any (a : Option Addr) (n cap : Nat) (w : World) : Calls Try.prog 42 #[.slice a n cap] w fun e w' => e = .returned (.func (.func 44) #[] #[.pointer (some ⟨w.heap.size, 0, none⟩)]) ∧ w' = w.alloc (.cells #[.slice a n cap] 22) := by
  go_enter Try.func42, Try.ntmps42
  go_wp2
  go_ret
  exact ⟨rfl, rfl⟩
theorem csum_any (a : Option Addr) (cap : Nat) (xs : List Nat) (w : World) (hx : ∀ y ∈ xs, y < 256) (hl : xs.length < 140737488355328) (hr : RdA w a xs) :
    Calls Try.prog 33 #[.slice a xs.length cap] w fun e w' => e = .returned (.int .u32 ((65535 - fol (addW (wordsOf xs)) : Nat) : Int)) ∧ Below w.heap.size w w' := by
  have HU := hide (upW_vals xs hx)
  have HR := hide hr
  clear hr
  go_enter Try.func33, Try.ntmps33
  go_wp2_with fail
  refine (words_any a xs.length cap _).mono ?_
  rintro e w1 ⟨rfl, hw1⟩
  have hB : Below w.heap.size w w1 := by rw [hw1]; exact (Below.refl _ w).alloc (Nat.le_refl _) _
  have hc : w1.cell? ⟨w.heap.size, 0, none⟩ = some (.slice a xs.length cap) := by rw [hw1]; exact (LC.new w _ _).1
  have hz : w1.heap.size = w.heap.size + 1 := by rw [hw1]; simp
  clear hw1
  have hb2 : Below w1.heap.size w1 (w1.alloc (.cells #[.int .u64 0] 25)) := (Below.refl _ w1).alloc (Nat.le_refl _) _
  have HA := hide (added_any 44 #[.pointer (some ⟨w.heap.size, 0, none⟩)] (upW xs ((xs.length + 1) / 2)) ((xs.length + 1) / 2) (by omega) (upW_length _ _) w1 (enters_of Try.func44 (by kernel_rfl) rfl)
    (words_stops 5 (by omega) w.heap.size (w1.heap.size + 1) cap a xs _ _ hx hl ((hb2.cell (p := ⟨w.heap.size, 0, none⟩) (by show w.heap.size < _; omega)).trans hc) ((HR.out.below hB).below hb2) (by simp) (by omega) (fun q e => by have := HR.out.lt q e; omega) (by omega) (fun q e => by have := HR.out.lt q e; omega)))
  have HB := hide hB
  have hz2 := hB.size
  rw [show vals (upW xs ((xs.length + 1) / 2)) = wordsOf xs from HU.out] at HA
  have hf := fol_le (addW (wordsOf xs))
  have HN := hide (not16 (fol (addW (wordsOf xs))) (by omega))
  clear hB hc hb2 hz
  generalize hF : fol (addW (wordsOf xs)) = F at *
  have HF := hide hF
  clear hF
  go_wp2_with fail
  refine HA.out.mono ?_
  rintro e w2 ⟨rfl, hb⟩
  go_wp2
  go_ret
  exact ⟨ret_int (by rw [HF.out, HN.out]; omega), HB.out.trans (hb.mono hz2)⟩
set_option maxRecDepth 100000 in
set_option maxHeartbeats 4000000 in
theorem xor16_any (a : Option Addr) (cap : Nat) (xs : List Nat) (w : World) (hx : ∀ y ∈ xs, y < 256) (hl : xs.length < 140737488355328) (hr : RdA w a xs) :
    Calls Try.prog 34 #[.slice a xs.length cap] w fun e w' => e = .returned (.int .u32 ((xorW (wordsOf xs) : Nat) : Int)) ∧ Below w.heap.size w w' := by
  have HU := hide (upW_vals xs hx)
  have HR := hide hr
  clear hr
  refine (callsIn_wide (n := 6)).1 ?_
  refine callsIn_of_wp_marks Try.func34 rfl trivial ?_ rfl
  simp only [Try.ntmps34, List.size_toArray, List.length_cons, List.length_nil, Nat.reduceAdd, Nat.reduceSub, Array.replicate_succ, Array.replicate_zero, List.push_toArray, List.append_toArray, List.nil_append, List.cons_append]
  gi_wp2_with fail
  refine ⟨trivial, (callsIn_wide.2 (words_any a xs.length cap _)).mono ?_⟩
  rintro e w1 ⟨rfl, hw1⟩
  simp only [World.size_alloc]
  have hB : Below w.heap.size w w1 := by rw [hw1]; exact ((Below.refl _ w).alloc (Nat.le_refl _) _).alloc (by simp) _
  have hc : w1.cell? ⟨w.heap.size + 1, 0, none⟩ = some (.slice a xs.length cap) := by
    have h := (LC.new (w.alloc (.cells #[.int .u16 0] 33)) (.slice a xs.length cap) 22).1
    rw [World.size_alloc] at h
    rw [hw1]; exact h
  have lS : LC w1 w.heap.size (.int .u16 0) := by rw [hw1]; exact (LC.new w _ _).alloc _
  have hz : w1.heap.size = w.heap.size + 1 + 1 := by rw [hw1]; simp
  clear hw1
  gi_wp2
  refine' wpIn_rangeFunc_ownF rfl (by omega) (gf := 44) (lb := #[.pointer (some ⟨w.heap.size + 1, 0, none⟩)]) rfl trivial (enters_of Try.func44 (by kernel_rfl) rfl)
    (words_stops _ (by omega) (w.heap.size + 1) w1.heap.size cap a xs (fun b => b = w.heap.size) w1 hx hl hc (HR.out.below hB) (Nat.le_refl _) (by omega) (fun q e => by have := HR.out.lt q e; omega) (by omega) (fun q e => by have := HR.out.lt q e; omega))
    KeepBut.t (KeepBut.b (Nat.le_refl _)) (Below.refl _ _) (fun _ => rfl)
    (fun pre W => LC W w.heap.size (.int .u16 ((xorW (vals pre) : Nat) : Int)) ∧ Below w.heap.size w W)
    (fun _ _ _ => False)
    (OwnFrom.and (Own.from (fun s A B row hs hg hr => hs.kept hg hr) _) (ownFrom_below (Nat.le_refl _) (by omega)))
    (fun _ _ _ _ _ hs _ _ => hs)
    ⟨lS, hB⟩ _ ?assign ?body ?done ?stop
  case assign =>
    intro l x W K hK
    dsimp only [encW]
    gi_wp2
    exact hK
  case stop =>
    rintro D c pre W _ _ h _
    exact h.elim
  case body =>
    rintro l pre ⟨x, hx⟩ W ⟨lT, hB⟩ hlen
    have hT := xorW_lt (vals pre) (vals_lt pre)
    have EV : Hid (xorW (vals (pre ++ [⟨x, hx⟩])) = xorW (vals pre) ^^^ x) := by show _ = _; rw [vals_snoc, xorW_snoc]
    have EX := hide (u16_xor_nat (xorW (vals pre)) x hT hx)
    have LT := hide lT; have HB := hide hB
    obtain ⟨h1, h2⟩ := lT
    clear hB
    generalize xorW (vals pre) = T at *
    gi_wp2
    exact ⟨KeepsOthers.setCell _ _ _, KeepBut.refl.setCell _ _ rfl, (LT.out.set _).cast (by rw [EV.out, EX.out]), HB.out.setCell (Nat.le_refl _) _⟩
  case done =>
    rintro D ys W hD rfl ⟨lT, hB⟩ hK
    rw [show vals (upW xs ((xs.length + 1) / 2)) = wordsOf xs from HU.out] at lT
    have hT := xorW_lt (wordsOf xs) (wordsOf_lt xs hx)
    have LT := hide lT; have HB := hide hB; have HK := hide hK
    obtain ⟨h1, h2⟩ := lT
    clear hB hK
    generalize hF : xorW (wordsOf xs) = F at *
    have HF := hide hF
    clear hF
    gi_wp2
    refine ⟨by simp, .inl ⟨_, _, rfl, run_takeDeferred HK.out, ?_⟩⟩
    refine ⟨_, results_tmp rfl _ _ _, by rw [HF.out]; rfl, HB.out.trans (belowK_b (w := w) (Nat.le_refl _) W D _ _ (by omega) HK.out rfl rfl)⟩
theorem values_any (p n cap : Nat) (w : World) : Calls Try.prog 31 #[.slice (some ⟨p, 0, none⟩) n cap] w fun e w' => e = .returned (.func (.func 37) #[] #[.pointer (some ⟨w.heap.size, 0, none⟩)]) ∧ w' = w.alloc (.cells #[.slice (some ⟨p, 0, none⟩) n cap] 65) := by
  go_enter Try.func31, Try.ntmps31
  go_wp2
  go_ret
  exact ⟨rfl, rfl⟩
def turnF (s o n : Nat) : Nat := 65535 - fol ((65535 - s) + (65535 - o) + n)
theorem turn_any (s o n : Nat) (w : World) (hs : s < 65536) (ho : o < 65536) (hn : n < 65536) :
    Calls Try.prog 20 #[.int .u16 s, .int .u16 o, .int .u16 n] w fun e w' => e = .returned (.int .u16 ((turnF s o n : Nat) : Int)) ∧ Below w.heap.size w w' := by
  have e1 := not16 s hs
  have e2 := not16 o ho
  go_enter Try.func20, Try.ntmps20
  go_wp2_with fail
  obtain ⟨w0, hw0⟩ : ∃ w0, w0 = w.alloc (.cells #[.int .u16 ((65535 - s : Nat) : Int), .int .u16 ((65535 - o : Nat) : Int), .int .u16 (n : Int)] 33) := ⟨_, rfl⟩
  rw [← hw0]
  have hb0 : Below w.heap.size w w0 := by rw [hw0]; exact (Below.refl _ w).alloc (Nat.le_refl _) _
  have hz0 : w0.heap.size = w.heap.size + 1 := by rw [hw0]; simp
  have hr0 : Rd16 w0 w.heap.size [65535 - s, 65535 - o, n] := by
    have hh : w0.heap[w.heap.size]? = some (.cells #[.int .u16 ((65535 - s : Nat) : Int), .int .u16 ((65535 - o : Nat) : Int), .int .u16 (n : Int)] 33 (0, 0)) := by rw [hw0]; exact heap_alloc_new w _
    intro i hi
    unfold World.cell?; simp only [hh]
    rcases (by simp at hi; omega : i = 0 ∨ i = 1 ∨ i = 2) with rfl | rfl | rfl <;> rfl
  have HR0 := hide hr0; have HB0 := hide hb0
  have hv : ∀ y ∈ [65535 - s, 65535 - o, n], y < 65536 := by
    intro y hy
    simp only [List.mem_cons, List.not_mem_nil, or_false] at hy
    omega
  have HV := hide hv
  clear hw0 hr0 hb0 hv
  refine (values_any w.heap.size 3 3 w0).mono ?_
  rintro e w1 ⟨rfl, hw1⟩
  have hB : Below w0.heap.size w0 w1 := by rw [hw1]; exact (Below.refl _ w0).alloc (Nat.le_refl _) _
  have hc : w1.cell? ⟨w0.heap.size, 0, none⟩ = some (.slice (some ⟨w.heap.size, 0, none⟩) 3 3) := by rw [hw1]; exact (LC.new w0 _ _).1
  have hz : w1.heap.size = w0.heap.size + 1 := by rw [hw1]; simp
  clear hw1
  have hb2 : Below w1.heap.size w1 (w1.alloc (.cells #[.int .u64 0] 25)) := (Below.refl _ w1).alloc (Nat.le_refl _) _
  have HA := hide (added_any 37 #[.pointer (some ⟨w0.heap.size, 0, none⟩)] (upV [65535 - s, 65535 - o, n] 3) 3 (by omega) (upV_length _ _) w1 (enters_of Try.func37 (by kernel_rfl) rfl)
    (values_stops 5 (by omega) w0.heap.size (w1.heap.size + 1) 3 w.heap.size [65535 - s, 65535 - o, n] _ _ HV.out (by simp) ((hb2.cell (p := ⟨w0.heap.size, 0, none⟩) (by show w0.heap.size < _; omega)).trans hc) (fun i hi => (hb2.cell (p := ⟨w.heap.size, i, none⟩) (by show w.heap.size < _; omega)).trans ((hB.cell (p := ⟨w.heap.size, i, none⟩) (by show w.heap.size < _; omega)).trans (HR0.out i hi))) (by simp) (by omega) (by omega) (by omega)))
  have HB := hide (HB0.out.trans (hB.mono (by omega)))
  have hz2 := HB.out.size
  rw [show vals (upV [65535 - s, 65535 - o, n] 3) = [65535 - s, 65535 - o, n] from upV_vals _ HV.out, show addW [65535 - s, 65535 - o, n] = (65535 - s) + (65535 - o) + n by simp [addW]] at HA
  have hf := fol_le ((65535 - s) + (65535 - o) + n)
  have HN := hide (not16 (fol ((65535 - s) + (65535 - o) + n)) (by omega))
  clear hB hc hb2 hz hz0
  have HF : Hid (turnF s o n = 65535 - fol ((65535 - s) + (65535 - o) + n)) := rfl
  generalize fol ((65535 - s) + (65535 - o) + n) = F at *
  go_wp2_with fail
  refine HA.out.mono ?_
  rintro e w2 ⟨rfl, hb⟩
  go_wp2
  go_ret
  exact ⟨ret_int (by rw [HF.out]; exact HN.out), HB.out.trans (hb.mono hz2)⟩
end Go.Proofs.Ytaekdnoondpgnaa
