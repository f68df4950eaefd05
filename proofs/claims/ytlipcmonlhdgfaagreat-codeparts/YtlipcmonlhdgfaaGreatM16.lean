/- Pieces of the proof: CoK, CoM, CoP, CpE. -/
import Derived.Test.YtlipcmonlhdgfaaGreatM15
/- package code: calls; heads; the metadata. -/
namespace Go.Proofs.YtlipcmonlhdgfaaGreat
open Go.RowKit

theorem ent_alike2 : ∀ args w, (callFunc 54 args).run Tryz.prog w = .ok (.enter 54 args) w := enters_of Tryz.func54 (by kernel_rfl) rfl
def ac0 : AcL := ⟨⟨#[]⟩, [], none, 0, [], none, 0⟩
def callB (c : CoL) (v : In) : Bool := wtn v.n c.ac.length && eqI (fun a b => wid c.sl a == wid c.sl b) v.l (c.ac.getD v.n.toNat ac0).ps
theorem ac_get {l : List AcL} {k : Nat} (h : k < l.length) : l.getD (k : Int).toNat ac0 = l[k] := by rw [Int.toNat_natCast, List.getD_eq_getElem?_getD, List.getElem?_eq_getElem h]; rfl
set_option maxRecDepth 100000 in
set_option maxHeartbeats 4000000 in
theorem call12_any (c : CoL) (g : Nat) (r : Value) (x : InL) (k e : Int) (w : World) (hj : Jd w g c r) (hc : CoR w c) (hx : InR w x) : Calls Tryz.prog 74 #[.pointer (some ⟨g, 0, none⟩), isV x k e] w fun e w' => e = .returned (.bool (callB c x.v)) ∧ Below w.heap.size w w' := by
  have HF : Hid (Pure _ _ _) := within_any x.v.n c.ac.length (by have := hc.ac.ln; omega)
  unfold callB isV
  cases hcw : wtn x.v.n c.ac.length
  · rw [hcw] at HF
    simp only [Bool.false_and]
    have HJ : Hid (∀ W, Below w.heap.size w W → _) := fun W hb => (hj.below hb).at.2.2.2.2.2.1
    generalize c.ac.length = an at *
    generalize x.v.l.length = ln at *
    clear hj hc hx hcw
    obtain ⟨⟨op, to, a, b, n, m, l, ⟨lw, lh, ll⟩, of⟩, la, lc⟩ := x
    simp only at *
    generalize hW1 : w.alloc (.cells #[.int .u8 op, .int .i64 to, .int .i64 a, .int .i64 b, .int .i64 n, .int .i64 m, .slice la ln lc, .int .i64 lw, .int .u64 lh, .int .u64 ll, .int .u8 of, .int .i64 k, .int .i64 e] 104) = W1
    have B1 : Below w.heap.size w W1 := hW1 ▸ below1 _ _
    have K13 : W1.heap[w.heap.size]? = some (.cells #[.int .u8 op, .int .i64 to, .int .i64 a, .int .i64 b, .int .i64 n, .int .i64 m, .slice la ln lc, .int .i64 lw, .int .u64 lh, .int .u64 ll, .int .u8 of, .int .i64 k, .int .i64 e] 104 (0, 0)) := hW1 ▸ heap_alloc_new _ _
    obtain ⟨X, f, hX, hS, hcov⟩ := class_of (fun w' => Below W1.heap.size W1 w') W1.drew (Below.refl _ _).drew
    have HC0 : Hid (∃ x, W1.drew = f x) := hcov _ (Below.refl _ _).drew
    have HNX : Hid (∀ x w', Below (f x).heap.size (f x) w' → ∃ y, w' = f y) := fun x w' hb => hcov w' ((hS x).trans (hb.mono (hS x).size))
    have HBX : Hid (∀ x, Below w.heap.size w (f x)) := fun x => bstep B1 (hS x)
    have t4 := fun x => (at13 (heap_below (hS x) K13)).2.2.2.2.1
    have t6 := fun x => (at13 (heap_below (hS x) K13)).2.2.2.2.2.2.1
    have tg := fun x => HJ.out _ (HBX.out x)
    have HW1 := hide hW1
    clear hcov hS B1 K13 hW1 HJ
    go_enter Tryz.func74, Tryz.ntmps74
    go_wp2
    rw [HW1.out]
    refine wp_region_class f (by kernel_rfl) (by kernel_rfl) HC0.out ?_
    repeat (first
      | go_big_quiet_skip
      | (go_big_quiet_want; go_big_quiet_op; first
          | go_big_quiet_on
          | (apply Exists.intro
             refine ⟨fun _ => ?_, ?_⟩
             · first
                | (go_at_call 72; refine (HF.out _).mono ?_; rintro e' wn ⟨rfl, hb⟩; exact ⟨rfl, HNX.out _ _ hb⟩)
             go_big_quiet_on)))
    refine wpQuiet_nil ?_
    rintro _ ⟨x, rfl⟩
    have HBY := hide (HBX.out x)
    clear t4 t6 tg
    go_wp2
    go_ret
    exact ⟨rfl, HBY.out⟩
  · rw [hcw] at HF
    simp only [Bool.true_and]
    have HJ : Hid (∀ W, Below w.heap.size w W → _) := fun W hb => (hj.below hb).at.2.2.2.2.2.1
    obtain ⟨i, hi0, hi⟩ := wtn_yes hcw
    have hiI : (i : Int) < (c.ac.length : Int) := by omega
    obtain ⟨y, hy⟩ : ∃ y, c.ac[i] = y := ⟨_, rfl⟩
    have HY := hide hy
    rw [hi0, ac_get hi, hy]
    obtain ⟨p, off, ep, -, -⟩ := hc.ac.rd.some (by omega)
    have Q1 : Hid (∀ W, Below w.heap.size w W → W.cell? ⟨p, off + i * 3 + 1, none⟩ = some (.slice y.pa y.ps.length y.pc)) := fun W hb => by
      obtain ⟨p', off', ep', hp', hcl⟩ := (hc.ac.below hb).rd.some (by omega)
      rw [ep] at ep'
      injection ep' with ep'
      injection ep' with e1 e2
      subst e1 e2
      exact hcl i hi 1 _ (by rw [HY.out]; rfl)
    have hyr : IsR w y.pa y.ps := hy ▸ (hc.ac.ok _ (List.getElem_mem hi)).ps
    have HE : Hid (∀ W, Below w.heap.size w W → _) := fun W hb => eqFunc_any 54 ent_alike2 (.pointer (some ⟨g, 0, none⟩)) (fun a b => wid c.sl a == wid c.sl b) x.la y.pa x.lc y.pc x.v.l y.ps W (hx.l.below hb) (hyr.rd.below hb) hx.ln hyr.ln (fun a b W' hb' => alike12_any c g r a b W' (hj.below (bstep hb hb')) (hc.sl.below (bstep hb hb')))
    rw [ep] at HJ
    rw [hi0] at HF
    generalize eqI (fun a b => wid c.sl a == wid c.sl b) x.v.l y.ps = t at *
    generalize y.ps.length = pn at *
    have HI0 := hide hi0
    clear hyr hy HY ep
    generalize c.ac.length = an at *
    generalize x.v.l.length = ln at *
    clear hj hc hx hcw
    obtain ⟨⟨op, to, a, b, n, m, l, ⟨lw, lh, ll⟩, of⟩, la, lc⟩ := x
    simp only at *
    clear hi0 HI0
    generalize hW1 : w.alloc (.cells #[.int .u8 op, .int .i64 to, .int .i64 a, .int .i64 b, .int .i64 (i : Int), .int .i64 m, .slice la ln lc, .int .i64 lw, .int .u64 lh, .int .u64 ll, .int .u8 of, .int .i64 k, .int .i64 e] 104) = W1
    have B1 : Below w.heap.size w W1 := hW1 ▸ below1 _ _
    have K13 : W1.heap[w.heap.size]? = some (.cells #[.int .u8 op, .int .i64 to, .int .i64 a, .int .i64 b, .int .i64 (i : Int), .int .i64 m, .slice la ln lc, .int .i64 lw, .int .u64 lh, .int .u64 ll, .int .u8 of, .int .i64 k, .int .i64 e] 104 (0, 0)) := hW1 ▸ heap_alloc_new _ _
    obtain ⟨X, f, hX, hS, hcov⟩ := class_of (fun w' => Below W1.heap.size W1 w') W1.drew (Below.refl _ _).drew
    have HC0 : Hid (∃ x, W1.drew = f x) := hcov _ (Below.refl _ _).drew
    have HNX : Hid (∀ x w', Below (f x).heap.size (f x) w' → ∃ y, w' = f y) := fun x w' hb => hcov w' ((hS x).trans (hb.mono (hS x).size))
    have HBX : Hid (∀ x, Below w.heap.size w (f x)) := fun x => bstep B1 (hS x)
    have t4 := fun x => (at13 (heap_below (hS x) K13)).2.2.2.2.1
    have t6 := fun x => (at13 (heap_below (hS x) K13)).2.2.2.2.2.2.1
    have tg := fun x => HJ.out _ (HBX.out x)
    have tq := fun x => Q1.out _ (HBX.out x)
    have HW1 := hide hW1
    clear hcov hS B1 K13 hW1 HJ Q1
    go_enter Tryz.func74, Tryz.ntmps74
    go_wp2
    rw [HW1.out]
    refine wp_region_class f (by kernel_rfl) (by kernel_rfl) HC0.out ?_
    repeat (first
      | go_big_quiet_skip
      | (go_big_quiet_want; go_big_quiet_op; first
          | go_big_quiet_on
          | (apply Exists.intro
             refine ⟨fun _ => ?_, ?_⟩
             · first
                | (go_at_call 72; refine (HF.out _).mono ?_; rintro e' wn ⟨rfl, hb⟩; exact ⟨rfl, HNX.out _ _ hb⟩)
                | (go_at_call 115; refine (HE.out _ (HBX.out _)).mono ?_; rintro e' wn ⟨rfl, hb⟩; exact ⟨rfl, HNX.out _ _ hb⟩)
             go_big_quiet_on)))
    refine wpQuiet_nil ?_
    rintro _ ⟨x, rfl⟩
    have HBY := hide (HBX.out x)
    clear t4 t6 tg tq
    go_wp2
    go_ret
    exact ⟨rfl, HBY.out⟩
end Go.Proofs.YtlipcmonlhdgfaaGreat
/- package code: heads; the metadata. -/
namespace Go.Proofs.YtlipcmonlhdgfaaGreat
open Go.RowKit

theorem at1c {W : World} {b : Nat} {x : Value} {t : TypeId} (h : W.heap[b]? = some (.cells #[x] t (0, 0))) : W.cell? ⟨b, 0, none⟩ = some x ∧ True := by
  refine ⟨?_, trivial⟩
  unfold World.cell?; simp only [h]; rfl
def wsum (sl l : List Int) : Int := l.foldl (fun s z => s + wid sl z) 0
theorem wid_bd {sl : List Int} (h : ∀ z ∈ sl, 1 ≤ z ∧ z ≤ 128) (n : Int) : 0 ≤ wid sl n ∧ wid sl n ≤ 128 := by
  unfold wid
  split
  · rename_i hc
    obtain ⟨k, rfl, hk⟩ := wtn_yes hc
    rw [Int.toNat_natCast, List.getD_eq_getElem?_getD, List.getElem?_eq_getElem hk]
    have := h _ (List.getElem_mem hk)
    simp only [Option.getD_some]
    omega
  · omega
theorem wsum_snoc (sl l : List Int) (z : Int) : wsum sl (l ++ [z]) = wsum sl l + wid sl z := by simp [wsum, List.foldl_append]
theorem wsum_bd {sl : List Int} (h : ∀ z ∈ sl, 1 ≤ z ∧ z ≤ 128) (l : List Int) : ∀ k, k ≤ l.length → 0 ≤ wsum sl (l.take k) ∧ wsum sl (l.take k) ≤ 128 * k
  | 0, _ => by simp [wsum]
  | k + 1, hk => by
    have ih := wsum_bd h l k (by omega)
    have hb := wid_bd h (l[k]'(by omega))
    rw [List.take_succ_eq_append_getElem (by omega), wsum_snoc]
    push_cast
    omega
set_option maxRecDepth 100000 in
set_option maxHeartbeats 2000000 in
theorem headMay_any (c : CoL) (g : Nat) (r : Value) (h : HdL) (w : World) (hj : Jd w g c r) (hs : IsR w c.sa c.sl) (hw : ∀ z ∈ c.sl, 1 ≤ z ∧ z ≤ 128) (hh : IsR w h.a h.l) : Calls Tryz.prog 119 #[.pointer (some ⟨g, 0, none⟩), .agg #[.slice h.a h.l.length h.c]] w fun e w' => e = .returned (.bool (frB 1 h.l.length 64 && (wsum c.sl h.l).tmod 8 == 0)) ∧ Below w.heap.size w w' := by
  have HW : Hid (∀ n W, Below w.heap.size w W → _) := fun n W hb => width12_any c g r n W (hj.below hb) (hs.below hb)
  have HF : Hid (Pure _ _ _) := from_any 1 h.l.length 64
  have HR := hide hh.rd
  have HL := hide hh.ln
  have HS : Hid (∀ k (hk : k < h.l.length), wsum c.sl (h.l.take (k + 1)) = wsum c.sl (h.l.take k) + wid c.sl h.l[k] ∧ IntKind.i64.wrap (wsum c.sl (h.l.take k) + wid c.sl h.l[k]) = wsum c.sl (h.l.take k) + wid c.sl h.l[k]) := fun k hk => by
    have e : wsum c.sl (h.l.take (k + 1)) = wsum c.sl (h.l.take k) + wid c.sl h.l[k] := by rw [List.take_succ_eq_append_getElem hk, wsum_snoc]
    have b := wsum_bd hw h.l (k + 1) (by omega)
    rw [e] at b
    have := hh.ln
    exact ⟨e, by rw [IntKind.wrap_i64]; push_cast at b; omega⟩
  have HT : Hid (h.l.take h.l.length = h.l) := List.take_length ..
  obtain ⟨S0, hS0⟩ : ∃ s, s = wsum c.sl h.l := ⟨_, rfl⟩
  rw [← hS0]
  have HS0 := hide hS0
  clear hj hs hw hh hS0
  obtain ⟨l, la, lc⟩ := h
  simp only at *
  have HB0 := hide (heap_alloc_new w (.cells #[.slice la l.length lc] 91))
  generalize hfr : frB 1 l.length 64 = t at *
  clear hfr
  go_enter Tryz.func119, Tryz.ntmps119
  go_wp2
  go_loopw [5, 11] (fun s i wr => ∃ k : Nat, k ≤ l.length ∧ i = .int .i64 k ∧ s = .int .i64 (wsum c.sl (l.take k)) ∧ Below (w.alloc (.cells #[.slice la l.length lc] 91)).heap.size (w.alloc (.cells #[.slice la l.length lc] 91)) wr) (fun _ i _ => l.length - (intOf i).toNat)
  case atStart => exact ⟨0, by omega, rfl, rfl, Below.refl _ _⟩
  case round =>
    obtain ⟨k, hk, rfl, rfl, hb⟩ := hrel
    have hbw : Below w.heap.size w wr := bstep (below1 _ _) hb
    have BB := hide hb
    have BW := hide hbw
    by_cases hlt : k < l.length
    · have hkI : (k : Int) < (l.length : Int) := by omega
      have hlm : l.length ≤ 1000000 := HL.out
      obtain ⟨q, off, rfl, -, hc⟩ := (HR.out.below hbw).some (by omega)
      have c0 := hc k hlt
      have HC := hide (HW.out l[k] wr hbw)
      obtain ⟨s1, s2⟩ := HS.out k hlt
      have S1 := hide s1
      clear hc hb hbw s1 HR HS HT HF
      generalize wsum c.sl (l.take k) = S at *
      generalize wid c.sl l[k] = u at *
      generalize l[k] = z at *
      go_wp2_with fail
      refine HC.out.mono ?_
      rintro e w1 ⟨rfl, hb1⟩
      have B1 := hide (bstep BB.out hb1)
      clear hb1
      go_wp2
      go_roundw
      case rel => exact ⟨k + 1, by omega, by go_num, by rw [S1.out], B1.out⟩
      case measure => simp [intOf]; omega
    · obtain rfl : k = l.length := by omega
      rw [HT.out, ← HS0.out]
      obtain ⟨c0, -⟩ := at1c (heap_below hb HB0.out)
      clear hb hbw HW HR HS HS0 HT
      generalize l.length = n at *
      cases t
      · go_wp2_with fail
        refine (HF.out _).mono ?_
        rintro e w1 ⟨rfl, hb1⟩
        go_wp2
        go_ret
        exact ⟨by first | rfl | simp, bstep BW.out hb1⟩
      · go_wp2_with fail
        refine (HF.out _).mono ?_
        rintro e w1 ⟨rfl, hb1⟩
        go_wp2
        go_ret
        exact ⟨by first | rfl | simp, bstep BW.out hb1⟩
end Go.Proofs.YtlipcmonlhdgfaaGreat
/- package code: how many instructions there are. -/
namespace Go.Proofs.YtlipcmonlhdgfaaGreat
open Go.RowKit

def sumN {α : Type} (f : α → Nat) (l : List α) : Nat := l.foldl (fun s x => s + f x) 0
theorem sumN_snoc {α : Type} (f : α → Nat) (l : List α) (x : α) : sumN f (l ++ [x]) = sumN f l + f x := by simp [sumN, List.foldl_append]
theorem sumN_next {α : Type} (f : α → Nat) {l : List α} {k : Nat} (h : k < l.length) : sumN f (l.take (k + 1)) = sumN f (l.take k) + f l[k] := by rw [List.take_succ_eq_append_getElem h, sumN_snoc]
theorem sumN_bd {α : Type} {f : α → Nat} {l : List α} {B : Nat} (h : ∀ x ∈ l, f x ≤ B) : ∀ k, k ≤ l.length → sumN f (l.take k) ≤ B * k
  | 0, _ => by simp [sumN]
  | k + 1, hk => by
    rw [sumN_next f (by omega)]
    have := sumN_bd h k (by omega)
    have := h _ (List.getElem_mem (show k < l.length by omega))
    rw [Nat.mul_succ]
    omega
def insN (c : CoL) : Nat := c.mn.length + sumN (fun x : AcL => x.cd.length) c.ac + sumN (fun x : NdL => x.cd.length) c.st + sumN (fun x : TaL => x.bf.length) c.tb
set_option maxRecDepth 100000 in
set_option maxHeartbeats 4000000 in
theorem instructions_any (c : CoL) (g : Nat) (r : Value) (w : World) (hj : Jd w g c r) (hc : CoR w c) : Calls Tryz.prog 116 #[.pointer (some ⟨g, 0, none⟩)] w fun e w' => e = .returned (.int .i64 (insN c : Nat)) ∧ Below w.heap.size w w' := by
  have HJ := hide hj
  have HA := hide hc.ac
  have HS := hide hc.st
  have HT := hide hc.tb
  have hm := hc.mn.ln
  have BA : Hid (∀ k, k ≤ c.ac.length → sumN (fun x : AcL => x.cd.length) (c.ac.take k) ≤ 1000000 * k) := fun k hk => sumN_bd (fun x hx => (hc.ac.ok x hx).cd.ln) k hk
  have BS : Hid (∀ k, k ≤ c.st.length → sumN (fun x : NdL => x.cd.length) (c.st.take k) ≤ 1000000 * k) := fun k hk => sumN_bd (fun x hx => (hc.st.ok x hx).cd.ln) k hk
  have BT : Hid (∀ k, k ≤ c.tb.length → sumN (fun x : TaL => x.bf.length) (c.tb.take k) ≤ 1000000 * k) := fun k hk => sumN_bd (fun x hx => (hc.tb.ok x hx).bf.ln) k hk
  have la := hc.ac.ln
  have ls := hc.st.ln
  have lt := hc.tb.ln
  have EA : Hid (c.ac.take c.ac.length = c.ac) := List.take_length ..
  have ES : Hid (c.st.take c.st.length = c.st) := List.take_length ..
  have ET : Hid (c.tb.take c.tb.length = c.tb) := List.take_length ..
  obtain ⟨R, hR⟩ : ∃ R, R = insN c := ⟨_, rfl⟩
  rw [← hR]
  have HR := hide hR
  obtain ⟨-, -, -, c3, c4, c5, c6, -, -, -⟩ := hj.at
  clear hj hc hR
  go_enter Tryz.func116, Tryz.ntmps116
  go_wp2
  go_loopw [3, 22] (fun s i wr => ∃ k : Nat, k ≤ c.ac.length ∧ i = .int .i64 k ∧ s = .int .i64 ((c.mn.length + sumN (fun x : AcL => x.cd.length) (c.ac.take k) : Nat) : Int) ∧ Below w.heap.size w wr) (fun _ i _ => c.ac.length - (intOf i).toNat)
  case atStart => exact ⟨0, by omega, rfl, by simp [sumN], Below.refl _ _⟩
  case round =>
    obtain ⟨k0, hk0, rfl, rfl, hb⟩ := hrel
    have BB0 := hide hb
    by_cases hlt : k0 < c.ac.length
    · have hkI : (k0 : Int) < (c.ac.length : Int) := by omega
      obtain ⟨q, off, ep, -, hcl⟩ := (HA.out.below hb).rd.some (by omega)
      obtain ⟨x, hx⟩ : ∃ x, c.ac[k0] = x := ⟨_, rfl⟩
      have b1 := BA.out (k0 + 1) (by omega)
      have b2 := hm
      have e1 := sumN_next (fun x : AcL => x.cd.length) hlt
      rw [e1, hx] at b1
      rw [hx] at e1
      obtain ⟨nm, ps, pa, pc, cd, ca, cc⟩ := x
      have d0 := hcl k0 hlt 0 (.string nm) (by rw [hx]; rfl)
      have d1 := hcl k0 hlt 1 (.slice pa ps.length pc) (by rw [hx]; rfl)
      have d2 := hcl k0 hlt 2 (.slice ca cd.length cc) (by rw [hx]; rfl)
      rw [Nat.add_zero] at d0
      simp only at b1 e1
      have HE : Hid (c.mn.length + sumN (fun x : AcL => x.cd.length) (c.ac.take (k0 + 1)) = c.mn.length + sumN (fun x : AcL => x.cd.length) (c.ac.take k0) + cd.length) := by show _ = _; omega
      have hw : IntKind.i64.wrap (((c.mn.length + sumN (fun x : AcL => x.cd.length) (c.ac.take k0) : Nat) : Int) + (cd.length : Int)) = ((c.mn.length + sumN (fun x : AcL => x.cd.length) (c.ac.take k0) + cd.length : Nat) : Int) := by rw [IntKind.wrap_i64]; omega
      rw [ep]
      clear hcl hb hx e1 b1 b2 ep c3 c4 c5 c6 HJ
      generalize c.mn.length + sumN (fun x : AcL => x.cd.length) (c.ac.take k0) = Sg at *
      generalize ps.length = g0 at *
      generalize cd.length = vl at *
      go_wp2
      go_roundw
      case rel => exact ⟨k0 + 1, by omega, by go_num, by rw [HE.out]; simp, BB0.out.alloc BB0.out.size _⟩
      case measure => simp [intOf]; omega
    · obtain rfl : k0 = c.ac.length := by omega
      rw [EA.out]
      clear c3 c4 c5 c6
      obtain ⟨-, -, -, c3, c4, c5, c6, -, -, -⟩ := (HJ.out.below hb).at
      have BD1 : Hid (c.mn.length + sumN (fun x : AcL => x.cd.length) c.ac ≤ 2000000000000) := by
        have h1 := BA.out _ (Nat.le_refl _)
        rw [EA.out] at h1
        have h2 := hm
        show _ ≤ _
        omega
      clear hb
      go_wp2
      go_loopw [3, 38] (fun s i wr => ∃ k : Nat, k ≤ c.st.length ∧ i = .int .i64 k ∧ s = .int .i64 ((c.mn.length + sumN (fun x : AcL => x.cd.length) c.ac + sumN (fun x : NdL => x.cd.length) (c.st.take k) : Nat) : Int) ∧ Below w.heap.size w wr) (fun _ i _ => c.st.length - (intOf i).toNat)
      case atStart => exact ⟨0, by omega, rfl, by simp [sumN], BB0.out⟩
      case round =>
        obtain ⟨k1, hk1, rfl, rfl, hb⟩ := hrel
        have BB1 := hide hb
        by_cases hlt : k1 < c.st.length
        · have hkI : (k1 : Int) < (c.st.length : Int) := by omega
          obtain ⟨q, off, ep, -, hcl⟩ := (HS.out.below hb).rd.some (by omega)
          obtain ⟨x, hx⟩ : ∃ x, c.st[k1] = x := ⟨_, rfl⟩
          have b1 := BS.out (k1 + 1) (by omega)
          have b2 := BD1.out
          have e1 := sumN_next (fun x : NdL => x.cd.length) hlt
          rw [e1, hx] at b1
          rw [hx] at e1
          obtain ⟨hs, ha, hcp, cd, ca, cc, slot, js, ja, jc, to⟩ := x
          have d0 := hcl k1 hlt 0 (.slice ha hs.length hcp) (by rw [hx]; rfl)
          have d1 := hcl k1 hlt 1 (.slice ca cd.length cc) (by rw [hx]; rfl)
          have d2 := hcl k1 hlt 2 (.int .i64 slot) (by rw [hx]; rfl)
          have d3 := hcl k1 hlt 3 (.slice ja js.length jc) (by rw [hx]; rfl)
          have d4 := hcl k1 hlt 4 (.int .i64 to) (by rw [hx]; rfl)
          rw [Nat.add_zero] at d0
          simp only at b1 e1
          have HE : Hid (c.mn.length + sumN (fun x : AcL => x.cd.length) c.ac + sumN (fun x : NdL => x.cd.length) (c.st.take (k1 + 1)) = c.mn.length + sumN (fun x : AcL => x.cd.length) c.ac + sumN (fun x : NdL => x.cd.length) (c.st.take k1) + cd.length) := by show _ = _; omega
          have hw : IntKind.i64.wrap (((c.mn.length + sumN (fun x : AcL => x.cd.length) c.ac + sumN (fun x : NdL => x.cd.length) (c.st.take k1) : Nat) : Int) + (cd.length : Int)) = ((c.mn.length + sumN (fun x : AcL => x.cd.length) c.ac + sumN (fun x : NdL => x.cd.length) (c.st.take k1) + cd.length : Nat) : Int) := by rw [IntKind.wrap_i64]; omega
          rw [ep]
          clear hcl hb hx e1 b1 b2 ep c3 c4 c5 c6 HJ
          generalize c.mn.length + sumN (fun x : AcL => x.cd.length) c.ac + sumN (fun x : NdL => x.cd.length) (c.st.take k1) = Sg at *
          generalize hs.length = g0 at *
          generalize js.length = g1 at *
          generalize cd.length = vl at *
          go_wp2
          go_roundw
          case rel => exact ⟨k1 + 1, by omega, by go_num, by rw [HE.out]; simp, BB1.out.alloc BB1.out.size _⟩
          case measure => simp [intOf]; omega
        · obtain rfl : k1 = c.st.length := by omega
          rw [ES.out]
          clear c3 c4 c5 c6
          obtain ⟨-, -, -, c3, c4, c5, c6, -, -, -⟩ := (HJ.out.below hb).at
          have BD2 : Hid (c.mn.length + sumN (fun x : AcL => x.cd.length) c.ac + sumN (fun x : NdL => x.cd.length) c.st ≤ 4000000000000) := by
            have h1 := BS.out _ (Nat.le_refl _)
            rw [ES.out] at h1
            have h2 := BD1.out
            show _ ≤ _
            omega
          clear hb
          go_wp2
          go_loopw [3, 54] (fun s i wr => ∃ k : Nat, k ≤ c.tb.length ∧ i = .int .i64 k ∧ s = .int .i64 ((c.mn.length + sumN (fun x : AcL => x.cd.length) c.ac + sumN (fun x : NdL => x.cd.length) c.st + sumN (fun x : TaL => x.bf.length) (c.tb.take k) : Nat) : Int) ∧ Below w.heap.size w wr) (fun _ i _ => c.tb.length - (intOf i).toNat)
          case atStart => exact ⟨0, by omega, rfl, by simp [sumN], BB1.out⟩
          case round =>
            obtain ⟨k2, hk2, rfl, rfl, hb⟩ := hrel
            have BB2 := hide hb
            by_cases hlt : k2 < c.tb.length
            · have hkI : (k2 : Int) < (c.tb.length : Int) := by omega
              obtain ⟨q, off, ep, -, hcl⟩ := (HT.out.below hb).rd.some (by omega)
              obtain ⟨x, hx⟩ : ∃ x, c.tb[k2] = x := ⟨_, rfl⟩
              have b1 := BT.out (k2 + 1) (by omega)
              have b2 := BD2.out
              have e1 := sumN_next (fun x : TaL => x.bf.length) hlt
              rw [e1, hx] at b1
              rw [hx] at e1
              obtain ⟨nm, ks, ka, kc, kd, da, dc, ats, aa, ac, df, gs, ga, gc, size, bf, ba, bc⟩ := x
              have d0 := hcl k2 hlt 0 (.string nm) (by rw [hx]; rfl)
              have d1 := hcl k2 hlt 1 (.slice ka ks.length kc) (by rw [hx]; rfl)
              have d2 := hcl k2 hlt 2 (.slice da kd.length dc) (by rw [hx]; rfl)
              have d3 := hcl k2 hlt 3 (.slice aa ats.length ac) (by rw [hx]; rfl)
              have d4 := hcl k2 hlt 4 (.int .i64 df) (by rw [hx]; rfl)
              have d5 := hcl k2 hlt 5 (.slice ga gs.length gc) (by rw [hx]; rfl)
              have d6 := hcl k2 hlt 6 (.int .i64 size) (by rw [hx]; rfl)
              have d7 := hcl k2 hlt 7 (.slice ba bf.length bc) (by rw [hx]; rfl)
              rw [Nat.add_zero] at d0
              simp only at b1 e1
              have HE : Hid (c.mn.length + sumN (fun x : AcL => x.cd.length) c.ac + sumN (fun x : NdL => x.cd.length) c.st + sumN (fun x : TaL => x.bf.length) (c.tb.take (k2 + 1)) = c.mn.length + sumN (fun x : AcL => x.cd.length) c.ac + sumN (fun x : NdL => x.cd.length) c.st + sumN (fun x : TaL => x.bf.length) (c.tb.take k2) + bf.length) := by show _ = _; omega
              have hw : IntKind.i64.wrap (((c.mn.length + sumN (fun x : AcL => x.cd.length) c.ac + sumN (fun x : NdL => x.cd.length) c.st + sumN (fun x : TaL => x.bf.length) (c.tb.take k2) : Nat) : Int) + (bf.length : Int)) = ((c.mn.length + sumN (fun x : AcL => x.cd.length) c.ac + sumN (fun x : NdL => x.cd.length) c.st + sumN (fun x : TaL => x.bf.length) (c.tb.take k2) + bf.length : Nat) : Int) := by rw [IntKind.wrap_i64]; omega
              rw [ep]
              clear hcl hb hx e1 b1 b2 ep c3 c4 c5 c6 HJ
              generalize c.mn.length + sumN (fun x : AcL => x.cd.length) c.ac + sumN (fun x : NdL => x.cd.length) c.st + sumN (fun x : TaL => x.bf.length) (c.tb.take k2) = Sg at *
              generalize ks.length = g0 at *
              generalize kd.length = g1 at *
              generalize ats.length = g2 at *
              generalize gs.length = g3 at *
              generalize bf.length = vl at *
              go_wp2
              go_roundw
              case rel => exact ⟨k2 + 1, by omega, by go_num, by rw [HE.out]; simp, BB2.out.alloc BB2.out.size _⟩
              case measure => simp [intOf]; omega
            · obtain rfl : k2 = c.tb.length := by omega
              rw [ET.out]
              clear c3 c4 c5 c6
              obtain ⟨-, -, -, c3, c4, c5, c6, -, -, -⟩ := (HJ.out.below hb).at
              have HRR : Hid (c.mn.length + sumN (fun x : AcL => x.cd.length) c.ac + sumN (fun x : NdL => x.cd.length) c.st + sumN (fun x : TaL => x.bf.length) c.tb = R) := by show _ = _; rw [HR.out]; rfl
              rw [HRR.out]
              clear hb
              go_wp2
              go_ret
              exact ⟨rfl, BB2.out⟩
end Go.Proofs.YtlipcmonlhdgfaaGreat
/- package code: the metadata. -/
namespace Go.Proofs.YtlipcmonlhdgfaaGreat
open Go.RowKit

theorem ent_meta1 : ∀ args w, (callFunc 140 args).run Tryz.prog w = .ok (.enter 140 args) w := enters_of Tryz.func140 (by kernel_rfl) rfl
theorem meta1_any (c : CoL) (g jb : Nat) (r : Value) (z : Int) (w : World) (hj : Jd w g c r) (hjb : Jb w jb g) (hs : IsR w c.sa c.sl) : Calls Tryz.prog 140 #[.int .i64 z, .pointer (some ⟨jb, 0, none⟩)] w fun ed w' => ed = .returned (.bool (wid c.sl z == 16)) ∧ Below w.heap.size w w' := by
  have HW := hide (width12_any c g r z w hj hs)
  have q := hjb.at
  clear hj hjb hs
  generalize wid c.sl z = v at *
  by_cases h : v = 16
  · subst h
    go_enter Tryz.func140, Tryz.ntmps140
    go_wp2_with fail
    refine HW.out.mono ?_
    rintro e w1 ⟨rfl, hb⟩
    go_wp2
    go_ret
    exact ⟨rfl, hb⟩
  · have d : (v = 16) = False := by simp [h]
    have d' : (v == 16) = false := by simpa using h
    go_enter Tryz.func140, Tryz.ntmps140
    go_wp2_with fail
    refine HW.out.mono ?_
    rintro e w1 ⟨rfl, hb⟩
    go_wp2
    go_ret
    exact ⟨by simp [h], hb⟩
def mtB (c : CoL) : Bool := frB 2 c.mt.length 66 && (c.mt.take 2).all (fun s => wid c.sl s == 16)
set_option maxRecDepth 100000 in
set_option maxHeartbeats 4000000 in
theorem metaMayBe_any (c : CoL) (g : Nat) (r : Value) (w : World) (hj : Jd w g c r) (hc : CoR w c) (hcap : c.mt.length ≤ c.mc) : Calls Tryz.prog 117 #[.pointer (some ⟨g, 0, none⟩)] w fun ed w' => ed = .returned (.bool (mtB c)) ∧ Below w.heap.size w w' := by
  have B0 := hide (below1 w (.cells #[.pointer (some ⟨g, 0, none⟩)] 67))
  have KJ : Hid (Jb (w.alloc (.cells #[.pointer (some ⟨g, 0, none⟩)] 67)) w.heap.size g) := heap_alloc_new w _
  have HF : Hid (Pure _ _ _) := from_any 2 (c.mt.length : Int) 66
  have HA : Hid (frB 2 c.mt.length 66 = true → ∀ W, Below (w.alloc (.cells #[.pointer (some ⟨g, 0, none⟩)] 67)).heap.size (w.alloc (.cells #[.pointer (some ⟨g, 0, none⟩)] 67)) W → Calls Tryz.prog 78 #[.slice c.ma 2 c.mc, .func (.func 140) #[] #[.pointer (some ⟨w.heap.size, 0, none⟩)]] W fun e w' => e = .returned (.bool ((c.mt.take 2).all (fun s => wid c.sl s == 16))) ∧ Below W.heap.size W w') := fun hf W hb => by
    have h2 : 2 ≤ c.mt.length := by
      unfold frB at hf
      simp at hf
      omega
    have hr : RdZ W c.ma (c.mt.take 2) := by
      rcases (hc.mt.rd.below (bstep B0.out hb)) with h | ⟨p, off, e, hp, hcl⟩
      · rw [h] at h2; simp at h2
      · refine .inr ⟨p, off, e, hp, fun i hi => ?_⟩
        have hi2 : i < c.mt.length := by rw [List.length_take] at hi; omega
        rw [List.getElem_take]
        exact hcl i hi2
    have := allZc 140 ent_meta1 (.pointer (some ⟨w.heap.size, 0, none⟩)) (fun s => wid c.sl s == 16) c.ma c.mc (c.mt.take 2) W hr (by rw [List.length_take]; omega) (fun z _ W' hb' => meta1_any c g w.heap.size r z W' (hj.below (bstep (bstep B0.out hb) hb')) ((KJ.out.below hb).below hb') (hc.sl.below (bstep (bstep B0.out hb) hb')))
    rw [show (c.mt.take 2).length = 2 from by rw [List.length_take]; omega] at this
    exact this
  have HM : Hid (frB 2 c.mt.length 66 = true → (2 : Int) ≤ (c.mc : Int)) := fun hf => by
    unfold frB at hf
    simp at hf
    omega
  have HJ : Hid (∀ W, Below w.heap.size w W → W.cell? ⟨g, 2, none⟩ = some (.slice c.ma c.mt.length c.mc)) := fun W hb => (hj.below hb).at.2.2.1
  unfold mtB
  have j2 := HJ.out _ B0.out
  have q := KJ.out.at
  have KJ2 := hide (fun W (hb : Below (w.alloc (.cells #[.pointer (some ⟨g, 0, none⟩)] 67)).heap.size (w.alloc (.cells #[.pointer (some ⟨g, 0, none⟩)] 67)) W) => (KJ.out.below hb).at)
  clear hj hc hcap KJ
  generalize frB 2 c.mt.length 66 = t1 at *
  generalize (c.mt.take 2).all (fun s => wid c.sl s == 16) = t2 at *
  generalize c.mt.length = n at *
  generalize c.ma = ma at *
  generalize c.mc = mc at *
  go_enter Tryz.func117, Tryz.ntmps117
  go_wp2_with fail
  refine (HF.out _).mono ?_
  rintro e w1 ⟨rfl, hb⟩
  have HB := hide hb
  have B1 := hide (bstep B0.out hb)
  have q1 := KJ2.out _ hb
  have j3 := HJ.out _ B1.out
  clear hb q j2 KJ2
  cases t1
  · go_wp2
    go_ret
    exact ⟨rfl, B1.out⟩
  · have HA2 := hide (HA.out rfl)
    have hm := HM.out rfl
    clear HA HM
    go_wp2_with fail
    refine (HA2.out _ HB.out).mono ?_
    rintro e w2 ⟨rfl, hb⟩
    have B2 := hide (bstep B1.out hb)
    clear hb
    go_wp2
    go_ret
    exact ⟨rfl, B2.out⟩
end Go.Proofs.YtlipcmonlhdgfaaGreat
