/- Pieces of the proof: CoB, CoC. -/
import Derived.Test.YtlipcmonlhdgfaaGreatM5
import Derived.BigQuiet
/- package code: small questions. -/
namespace Go.Proofs.YtlipcmonlhdgfaaGreat
open Go.RowKit

def frB (a n b : Int) : Bool := decide (a ≤ n) && decide (n ≤ b)
theorem from_any (a n b : Int) : Pure 114 #[.int .i64 a, .int .i64 n, .int .i64 b] (.bool (frB a n b)) := fun w => by
  unfold frB
  by_cases h1 : a ≤ n
  · have d1 : decide (a ≤ n) = true := by simp [h1]
    have d2 : (a ≤ n) = True := by simp [h1]
    rw [d1]
    go_enter Tryz.func114, Tryz.ntmps114
    go_wp2
    go_ret
    exact ⟨by simp, Below.refl _ _⟩
  · have d1 : decide (a ≤ n) = false := by simp [h1]
    have d2 : (a ≤ n) = False := by simp [h1]
    rw [d1]
    go_enter Tryz.func114, Tryz.ntmps114
    go_wp2
    go_ret
    exact ⟨rfl, Below.refl _ _⟩
def wtn (k : Int) (n : Nat) : Bool := decide (0 ≤ k) && decide (k < n)
theorem wtn_from (k : Int) (n : Nat) : frB 0 k ((n : Int) - 1) = wtn k n := by
  unfold frB wtn
  congr 1
  simp only [decide_eq_decide]; omega
theorem within_any (k : Int) (n : Nat) (hn : n ≤ 140737488355328) : Pure 72 #[.int .i64 k, .int .i64 n] (.bool (wtn k n)) := fun w => by
  have HF : Hid (Pure _ _ _) := from_any 0 k ((n : Int) - 1)
  rw [wtn_from] at HF
  have hw : IntKind.i64.wrap ((n : Int) - 1) = (n : Int) - 1 := by rw [IntKind.wrap_i64]; omega
  generalize wtn k n = t at *
  go_enter Tryz.func72, Tryz.ntmps72
  go_wp2_with fail
  refine (HF.out _).mono ?_
  rintro e w1 ⟨rfl, hb⟩
  go_wp2
  go_ret
  exact ⟨rfl, hb⟩
def widB (n : Int) : Bool := frB 1 n 128
theorem widthMay_any (n : Int) : Pure 79 #[.int .i64 n] (.bool (widB n)) := fun w => by
  have HF : Hid (Pure _ _ _) := from_any 1 n 128
  unfold widB
  generalize frB 1 n 128 = t at *
  go_enter Tryz.func79, Tryz.ntmps79
  go_wp2_with fail
  refine (HF.out _).mono ?_
  rintro e w1 ⟨rfl, hb⟩
  go_wp2
  go_ret
  exact ⟨rfl, hb⟩
theorem isSlot_any (x : CoL) (g : Nat) (r : Value) (n : Int) (w : World) (hj : Jd w g x r) (hl : x.sl.length ≤ 1000000) : Calls Tryz.prog 112 #[.pointer (some ⟨g, 0, none⟩), .int .i64 n] w fun e w' => e = .returned (.bool (wtn n x.sl.length)) ∧ Below w.heap.size w w' := by
  have HF : Hid (Pure _ _ _) := within_any n x.sl.length (by omega)
  obtain ⟨c0, -, -, -, -, -, -, -, -, -⟩ := hj.at
  generalize wtn n x.sl.length = t at *
  generalize x.sl.length = k at *
  clear hj
  go_enter Tryz.func112, Tryz.ntmps112
  go_wp2_with fail
  refine (HF.out _).mono ?_
  rintro e w1 ⟨rfl, hb⟩
  go_wp2
  go_ret
  exact ⟨rfl, hb⟩
theorem isHead_any (x : CoL) (g : Nat) (r : Value) (n : Int) (w : World) (hj : Jd w g x r) (hl : x.hd.length ≤ 1000000) : Calls Tryz.prog 61 #[.pointer (some ⟨g, 0, none⟩), .int .i64 n] w fun e w' => e = .returned (.bool (wtn n x.hd.length)) ∧ Below w.heap.size w w' := by
  have HF : Hid (Pure _ _ _) := within_any n x.hd.length (by omega)
  obtain ⟨-, c1, -, -, -, -, -, -, -, -⟩ := hj.at
  generalize wtn n x.hd.length = t at *
  generalize x.hd.length = k at *
  clear hj
  go_enter Tryz.func61, Tryz.ntmps61
  go_wp2_with fail
  refine (HF.out _).mono ?_
  rintro e w1 ⟨rfl, hb⟩
  go_wp2
  go_ret
  exact ⟨rfl, hb⟩
def tgt (n : Int) (k : Nat) : Bool := frB (-2) n ((k : Int) - 1)
theorem isTarget_any (x : CoL) (g : Nat) (r : Value) (n : Int) (w : World) (hj : Jd w g x r) (hl : x.st.length ≤ 1000000) : Calls Tryz.prog 122 #[.pointer (some ⟨g, 0, none⟩), .int .i64 n] w fun e w' => e = .returned (.bool (tgt n x.st.length)) ∧ Below w.heap.size w w' := by
  have HF : Hid (Pure _ _ _) := from_any (-2) n ((x.st.length : Int) - 1)
  obtain ⟨-, -, -, c3, -, -, -, -, -, -⟩ := hj.at
  have hw : IntKind.i64.wrap ((x.st.length : Int) - 1) = (x.st.length : Int) - 1 := by rw [IntKind.wrap_i64]; omega
  unfold tgt
  generalize frB (-2) n ((x.st.length : Int) - 1) = t at *
  generalize x.st.length = k at *
  clear hj
  go_enter Tryz.func122, Tryz.ntmps122
  go_wp2_with fail
  refine (HF.out _).mono ?_
  rintro e w1 ⟨rfl, hb⟩
  go_wp2
  go_ret
  exact ⟨rfl, hb⟩
/- How wide a slot is; 0, if there is none. -/
def wid (sl : List Int) (n : Int) : Int := if wtn n sl.length then sl.getD n.toNat 0 else 0
theorem width12_any (x : CoL) (g : Nat) (r : Value) (n : Int) (w : World) (hj : Jd w g x r) (hs : IsR w x.sa x.sl) : Calls Tryz.prog 57 #[.pointer (some ⟨g, 0, none⟩), .int .i64 n] w fun e w' => e = .returned (.int .i64 (wid x.sl n)) ∧ Below w.heap.size w w' := by
  have HF : Hid (∀ W, Below w.heap.size w W → _) := fun W hb => isSlot_any x g r n W (hj.below hb) hs.ln
  have HJ := hide hj
  have HS := hide hs.rd
  unfold wid
  cases hc : wtn n x.sl.length
  · rw [hc] at HF
    clear hc hj hs
    go_enter Tryz.func57, Tryz.ntmps57
    go_wp2_with fail
    refine (HF.out _ (Below.refl _ _)).mono ?_
    rintro e w1 ⟨rfl, hb⟩
    go_wp2
    go_ret
    exact ⟨rfl, hb⟩
  · rw [hc] at HF
    obtain ⟨k, rfl⟩ : ∃ k : Nat, n = k := by
      unfold wtn at hc; simp at hc; exact ⟨n.toNat, by omega⟩
    have hk : k < x.sl.length := by unfold wtn at hc; simp at hc; exact hc
    have hkI : (k : Int) < (x.sl.length : Int) := by omega
    have he : x.sl.getD (k : Int).toNat 0 = x.sl[k] := by rw [Int.toNat_natCast, List.getD_eq_getElem?_getD, List.getElem?_eq_getElem hk]; rfl
    obtain ⟨u, hu⟩ : ∃ u, x.sl[k] = u := ⟨_, rfl⟩
    have HU := hide hu
    rw [if_pos rfl, he, hu]
    clear hc hj hs he hu
    go_enter Tryz.func57, Tryz.ntmps57
    go_wp2_with fail
    refine (HF.out _ (Below.refl _ _)).mono ?_
    rintro e w1 ⟨rfl, hb⟩
    have B1 := hide hb
    obtain ⟨c0, -, -, -, -, -, -, -, -, -⟩ := (HJ.out.below hb).at
    obtain ⟨p, off, ep, hp, hcl⟩ := (HS.out.below hb).some (by omega)
    have q0 := hcl k hk
    rw [HU.out] at q0
    rw [ep] at c0
    clear hb hcl HF HJ HS ep HU
    generalize x.sl.length = n at *
    go_wp2
    go_ret
    exact ⟨rfl, B1.out⟩
theorem alike12_any (x : CoL) (g : Nat) (r : Value) (a b : Int) (w : World) (hj : Jd w g x r) (hs : IsR w x.sa x.sl) : Calls Tryz.prog 54 #[.pointer (some ⟨g, 0, none⟩), .int .i64 a, .int .i64 b] w fun e w' => e = .returned (.bool (wid x.sl a == wid x.sl b)) ∧ Below w.heap.size w w' := by
  have HA : Hid (∀ W, Below w.heap.size w W → _) := fun W hb => width12_any x g r a W (hj.below hb) (hs.below hb)
  have HB : Hid (∀ W, Below w.heap.size w W → _) := fun W hb => width12_any x g r b W (hj.below hb) (hs.below hb)
  generalize wid x.sl a = u at *
  generalize wid x.sl b = v at *
  clear hj hs
  go_enter Tryz.func54, Tryz.ntmps54
  go_wp2_with fail
  refine (HA.out _ (Below.refl _ _)).mono ?_
  rintro e w1 ⟨rfl, hb⟩
  have B1 := hide hb
  clear hb
  go_wp2_with fail
  refine (HB.out _ B1.out).mono ?_
  rintro e w2 ⟨rfl, hb⟩
  go_wp2
  go_ret
  exact ⟨by simp, bstep B1.out hb⟩
end Go.Proofs.YtlipcmonlhdgfaaGreat
/- package code: numbers that fit, arrays, parts. -/
namespace Go.Proofs.YtlipcmonlhdgfaaGreat
open Go.RowKit

set_option maxRecDepth 100000 in
set_option maxHeartbeats 2000000 in
theorem fits_any (x : CoL) (g : Nat) (r : Value) (b : Nb) (n : Int) (w : World) (hb : NbR b) (hj : Jd w g x r) (hs : IsR w x.sa x.sl) : Calls Tryz.prog 52 #[.pointer (some ⟨g, 0, none⟩), b.val, .int .i64 n] w fun e w' => e = .returned (.bool (b.ok && b.w == wid x.sl n)) ∧ Below w.heap.size w w' := by
  have HW : Hid (∀ W, Below w.heap.size w W → _) := fun W hb => width12_any x g r n W (hj.below hb) (hs.below hb)
  generalize wid x.sl n = u at *
  clear hj hs
  cases hc : b.ok
  · simp only [Bool.false_and]
    have HCK : Hid (∀ W, _) := fun W => check_any b.w b.hi b.lo W hb.hi.1 hb.hi.2 hb.lo.1 hb.lo.2
    have e : okB b.w b.hi b.lo = false := hc
    rw [e] at HCK
    clear e hc
    obtain ⟨bw, bh, bl⟩ := b
    simp only [Nb.val] at *
    generalize hW1 : w.alloc (.cells #[.int .i64 bw, .int .u64 bh, .int .u64 bl] 56) = W1
    have B1 : Below w.heap.size w W1 := hW1 ▸ below1 _ _
    have K3 : W1.heap[w.heap.size]? = some (.cells #[.int .i64 bw, .int .u64 bh, .int .u64 bl] 56 (0, 0)) := hW1 ▸ heap_alloc_new _ _
    obtain ⟨X, f, hX, hS, hcov⟩ := class_of (fun w' => Below W1.heap.size W1 w') W1.drew (Below.refl _ _).drew
    have HC0 : Hid (∃ x, W1.drew = f x) := hcov _ (Below.refl _ _).drew
    have HNX : Hid (∀ x w', Below (f x).heap.size (f x) w' → ∃ y, w' = f y) := fun x w' hb => hcov w' ((hS x).trans (hb.mono (hS x).size))
    have HBX : Hid (∀ x, Below w.heap.size w (f x)) := fun x => bstep B1 (hS x)
    have t0 := fun x => (at3 (heap_below (hS x) K3)).1
    have t1 := fun x => (at3 (heap_below (hS x) K3)).2.1
    have t2 := fun x => (at3 (heap_below (hS x) K3)).2.2.1
    have HW1 := hide hW1
    clear hcov hS B1 K3 hW1 hb
    go_enter Tryz.func52, Tryz.ntmps52
    go_wp2
    rw [HW1.out]
    refine wp_region_class f (by kernel_rfl) (by kernel_rfl) HC0.out ?_
    repeat (first
      | go_big_quiet_skip
      | (go_big_quiet_want; go_big_quiet_op; first
          | go_big_quiet_on
          | (apply Exists.intro
             refine ⟨fun _ => ?_, ?_⟩
             · first
                | (go_at_call 108; refine (HCK.out _).mono ?_; rintro e' wn ⟨rfl, hb⟩; exact ⟨rfl, HNX.out _ _ hb⟩)
                | (go_at_call 57; refine (HW.out _ (HBX.out _)).mono ?_; rintro e' wn ⟨rfl, hb⟩; exact ⟨rfl, HNX.out _ _ hb⟩)
             go_big_quiet_on)))
    refine wpQuiet_nil ?_
    rintro _ ⟨x, rfl⟩
    have HBY := hide (HBX.out x)
    clear t0 t1 t2 HNX HC0 HBX
    go_wp2
    go_ret
    exact ⟨by first | rfl | simp, HBY.out⟩
  · simp only [Bool.true_and]
    have HCK : Hid (∀ W, _) := fun W => check_any b.w b.hi b.lo W hb.hi.1 hb.hi.2 hb.lo.1 hb.lo.2
    have e : okB b.w b.hi b.lo = true := hc
    rw [e] at HCK
    clear e hc
    obtain ⟨bw, bh, bl⟩ := b
    simp only [Nb.val] at *
    generalize hW1 : w.alloc (.cells #[.int .i64 bw, .int .u64 bh, .int .u64 bl] 56) = W1
    have B1 : Below w.heap.size w W1 := hW1 ▸ below1 _ _
    have K3 : W1.heap[w.heap.size]? = some (.cells #[.int .i64 bw, .int .u64 bh, .int .u64 bl] 56 (0, 0)) := hW1 ▸ heap_alloc_new _ _
    obtain ⟨X, f, hX, hS, hcov⟩ := class_of (fun w' => Below W1.heap.size W1 w') W1.drew (Below.refl _ _).drew
    have HC0 : Hid (∃ x, W1.drew = f x) := hcov _ (Below.refl _ _).drew
    have HNX : Hid (∀ x w', Below (f x).heap.size (f x) w' → ∃ y, w' = f y) := fun x w' hb => hcov w' ((hS x).trans (hb.mono (hS x).size))
    have HBX : Hid (∀ x, Below w.heap.size w (f x)) := fun x => bstep B1 (hS x)
    have t0 := fun x => (at3 (heap_below (hS x) K3)).1
    have t1 := fun x => (at3 (heap_below (hS x) K3)).2.1
    have t2 := fun x => (at3 (heap_below (hS x) K3)).2.2.1
    have HW1 := hide hW1
    clear hcov hS B1 K3 hW1 hb
    go_enter Tryz.func52, Tryz.ntmps52
    go_wp2
    rw [HW1.out]
    refine wp_region_class f (by kernel_rfl) (by kernel_rfl) HC0.out ?_
    repeat (first
      | go_big_quiet_skip
      | (go_big_quiet_want; go_big_quiet_op; first
          | go_big_quiet_on
          | (apply Exists.intro
             refine ⟨fun _ => ?_, ?_⟩
             · first
                | (go_at_call 108; refine (HCK.out _).mono ?_; rintro e' wn ⟨rfl, hb⟩; exact ⟨rfl, HNX.out _ _ hb⟩)
                | (go_at_call 57; refine (HW.out _ (HBX.out _)).mono ?_; rintro e' wn ⟨rfl, hb⟩; exact ⟨rfl, HNX.out _ _ hb⟩)
             go_big_quiet_on)))
    refine wpQuiet_nil ?_
    rintro _ ⟨x, rfl⟩
    have HBY := hide (HBX.out x)
    clear t0 t1 t2 HNX HC0 HBX
    go_wp2
    go_ret
    exact ⟨by first | rfl | simp, HBY.out⟩
/- Is there an array of a kind? -/
def ayB (l : List Ay) (n k : Int) : Bool := wtn n l.length && (l.getD n.toNat ⟨⟨#[]⟩, 0, 0⟩).kind == k
theorem ay_get {l : List Ay} {k : Nat} (h : k < l.length) : l.getD (k : Int).toNat ⟨⟨#[]⟩, 0, 0⟩ = l[k] := by rw [Int.toNat_natCast, List.getD_eq_getElem?_getD, List.getElem?_eq_getElem h]; rfl
theorem wtn_yes {n : Int} {m : Nat} (h : wtn n m = true) : ∃ k : Nat, n = k ∧ k < m := by
  unfold wtn at h; simp at h; exact ⟨n.toNat, by omega, by omega⟩
set_option maxRecDepth 100000 in
set_option maxHeartbeats 2000000 in
theorem isArray_any (x : CoL) (g : Nat) (r : Value) (n k : Int) (w : World) (hj : Jd w g x r) (ha : AysR w x.ra x.ar) : Calls Tryz.prog 65 #[.pointer (some ⟨g, 0, none⟩), .int .i64 n, .int .u8 k] w fun e w' => e = .returned (.bool (ayB x.ar n k)) ∧ Below w.heap.size w w' := by
  have HF : Hid (Pure _ _ _) := within_any n x.ar.length (by have := ha.ln; omega)
  have HJ := hide hj
  have HA := hide ha
  unfold ayB
  obtain ⟨-, -, -, -, -, -, -, -, c8, -⟩ := hj.at
  cases hc : wtn n x.ar.length
  · rw [hc] at HF
    simp only [Bool.false_and]
    clear hc hj ha HA HJ
    generalize x.ar.length = m at *
    go_enter Tryz.func65, Tryz.ntmps65
    go_wp2_with fail
    refine (HF.out _).mono ?_
    rintro e w1 ⟨rfl, hb⟩
    go_wp2
    go_ret
    exact ⟨rfl, hb⟩
  · rw [hc] at HF
    obtain ⟨i, rfl, hi⟩ := wtn_yes hc
    have hiI : (i : Int) < (x.ar.length : Int) := by omega
    simp only [Bool.true_and]
    rw [ay_get hi]
    obtain ⟨y, hy⟩ : ∃ y, x.ar[i] = y := ⟨_, rfl⟩
    have HY := hide hy
    rw [hy]
    clear hc hj ha hy
    obtain ⟨nm, yk, yw⟩ := y
    simp only
    go_enter Tryz.func65, Tryz.ntmps65
    go_wp2_with fail
    refine (HF.out _).mono ?_
    rintro e w1 ⟨rfl, hb⟩
    have B1 := hide hb
    clear c8
    obtain ⟨-, -, -, -, -, -, -, -, c8, -⟩ := (HJ.out.below hb).at
    obtain ⟨p, off, ep, hp, hcl⟩ := (HA.out.below hb).rd.some (by omega)
    have q1 := hcl i hi 1 (.int .u8 yk) (by rw [HY.out]; rfl)
    rw [ep] at c8
    clear hb hcl HF HJ HA ep HY
    generalize x.ar.length = m at *
    go_wp2
    go_ret
    exact ⟨by first | rfl | simp, B1.out⟩
theorem kindMay_any (k : Int) : Pure 146 #[.int .u8 k] (.bool (decide (1 ≤ k) && decide (k ≤ 4))) := fun w => by
  by_cases h1 : 1 ≤ k
  · have d1 : decide (1 ≤ k) = true := by simp [h1]
    have d2 : (1 ≤ k) = True := by simp [h1]
    rw [d1]
    go_enter Tryz.func146, Tryz.ntmps146
    go_wp2
    go_ret
    exact ⟨by simp, Below.refl _ _⟩
  · have d1 : decide (1 ≤ k) = false := by simp [h1]
    have d2 : (1 ≤ k) = False := by simp [h1]
    rw [d1]
    go_enter Tryz.func146, Tryz.ntmps146
    go_wp2
    go_ret
    exact ⟨rfl, Below.refl _ _⟩
def askI (k : Int) : Int := if k = 11 then 131 else if k = 15 then 155 else if k = 16 then 139 else 135
theorem asked_any (k : Int) : Pure 110 #[.int .u8 k] (.int .i64 (askI k)) := fun w => by
  unfold askI
  by_cases h1 : k = 11
  · subst h1
    go_enter Tryz.func110, Tryz.ntmps110
    go_wp2
    go_ret
    exact ⟨rfl, Below.refl _ _⟩
  · have d1 : (k = 11) = False := by simp [h1]
    by_cases h2 : k = 15
    · subst h2
      go_enter Tryz.func110, Tryz.ntmps110
      go_wp2
      go_ret
      exact ⟨rfl, Below.refl _ _⟩
    · have d2 : (k = 15) = False := by simp [h2]
      by_cases h3 : k = 16
      · subst h3
        go_enter Tryz.func110, Tryz.ntmps110
        go_wp2
        go_ret
        exact ⟨rfl, Below.refl _ _⟩
      · have d3 : (k = 16) = False := by simp [h3]
        rw [if_neg h1, if_neg h2, if_neg h3]
        go_enter Tryz.func110, Tryz.ntmps110
        go_wp2
        go_ret
        exact ⟨rfl, Below.refl _ _⟩
def ayM (y : Ay) : Bool := if y.kind = 3 then widB y.w else if y.kind = 4 ∨ y.kind = 5 then y.w == 64 else false
theorem arrayMay_any (y : Ay) : Pure 82 #[.agg #[.string y.name, .int .u8 y.kind, .int .i64 y.w]] (.bool (ayM y)) := fun w => by
  unfold ayM
  have HF : Hid (Pure _ _ _) := widthMay_any y.w
  obtain ⟨nm, k, wd⟩ := y
  simp only at *
  generalize widB wd = t at *
  by_cases h1 : k = 3
  · subst h1
    go_enter Tryz.func82, Tryz.ntmps82
    go_wp2_with fail
    refine (HF.out _).mono ?_
    rintro e w1 ⟨rfl, hb⟩
    go_wp2
    go_ret
    exact ⟨by simp, bstep (below1 _ _) hb⟩
  · have d1 : (k = 3) = False := by simp [h1]
    rw [if_neg h1]
    by_cases h2 : k = 4
    · subst h2
      go_enter Tryz.func82, Tryz.ntmps82
      go_wp2
      go_ret
      exact ⟨by simp, below1 _ _⟩
    · have d2 : (k = 4) = False := by simp [h2]
      by_cases h3 : k = 5
      · subst h3
        go_enter Tryz.func82, Tryz.ntmps82
        go_wp2
        go_ret
        exact ⟨by simp, below1 _ _⟩
      · have d3 : (k = 5) = False := by simp [h3]
        rw [if_neg (by simp [h2, h3])]
        go_enter Tryz.func82, Tryz.ntmps82
        go_wp2
        go_ret
        exact ⟨rfl, below1 _ _⟩
end Go.Proofs.YtlipcmonlhdgfaaGreat
