/- Pieces of the proof: XT, XW, XX, XY, XZ, DkS. -/
import Derived.Test.YthlfbpadakoamaaM10
import Derived.Lib.AppendZeros
import Derived.Test.YthlfbpadakoamaaM1
import Derived.RegionTactic
/- slices.Grow of none, slices.Concat of two. -/
namespace Go.Proofs.Ythlfbpadakoamaa
open Go.RowKit

set_option maxHeartbeats 4000000 in
set_option maxRecDepth 100000 in
theorem grow_nil (n : Nat) (w : World) (h1 : 1 ≤ n) (h2 : n ≤ 1000000) : Calls Try.prog 59 #[.slice none 0 0, .int .i64 n] w fun e w' => ∃ cap, e = .returned (.slice (some ⟨w.heap.size, 0, none⟩) 0 cap) ∧ Own8 w' w.heap.size (.slice (some ⟨w.heap.size, 0, none⟩) 0 cap) [] ∧ Below w.heap.size w w' := by
  obtain ⟨i0, hi0, hz0, hz1, hz2⟩ := info_parts Try.info8
  have hr := fun ty => Go.Lib.run_append_nil_zeros (P := Try.prog) w 22 3 ty 5 i0 (.int .u8 0) .i64 .i64 Try.underlying22 Try.underlying3 hi0 hz0 n (by omega) (by omega) (by omega) (by rw [hz2]; omega)
  have hge := grownCap_ge w n 0 5
  have hcm : grownCap w n 0 5 ≤ maxLen := grownCap_le_maxLen w n 0 5 (by unfold maxLen; omega)
  have HO : Hid (Own8 (w.drew.alloc (.cells (Builtin.zeroCells (Value.int .u8 0).cells n ++ Builtin.zeroCells (Value.int .u8 0).cells (grownCap w n 0 5 - n)) 5)) w.heap.size (.slice (some ⟨w.heap.size, 0, none⟩) 0 (grownCap w n 0 5)) []) := hide (by
    refine ⟨rfl, .inr ⟨w.heap.size, _, _, rfl, Nat.le_refl _, heap_alloc_new w.drew _, Nat.zero_le _, hcm, ?_, rfl⟩⟩
    have hz : (Value.int IntKind.u8 0).cells.size = 1 := rfl
    simp only [Array.size_append, size_zeroCells, hz]
    omega)
  have HB : Hid (Below w.heap.size w (w.drew.alloc (.cells (Builtin.zeroCells (Value.int .u8 0).cells n ++ Builtin.zeroCells (Value.int .u8 0).cells (grownCap w n 0 5 - n)) 5))) := hide ((Below.refl _ w).drew.alloc (by simp) _)
  have d1 : ((n : Int) < 0) = False := eq_false (by omega)
  have d2 : ((n : Int) > 0) = True := eq_true (by omega)
  have d3 : ((0 : Int) < (n : Int)) = True := eq_true (by omega)
  have d5 : (0 < n) = True := eq_true (by omega)
  have HR := hide hr
  have hwn : IntKind.i64.wrap (n : Int) = n := by rw [IntKind.wrap_i64]; omega
  have hwn2 : wrap64 (n : Int) = n := by unfold wrap64; omega
  generalize grownCap w n 0 5 = C at *
  obtain ⟨w', hw'⟩ : ∃ w', w' = w.drew.alloc (.cells (Builtin.zeroCells (Value.int .u8 0).cells n ++ Builtin.zeroCells (Value.int .u8 0).cells (C - n)) 5) := ⟨_, rfl⟩
  rw [← hw'] at HO HB HR
  have d4 : ((0 : Int) ≤ (C : Int)) = True := eq_true (by omega)
  clear hr hw' hge hcm h1 h2
  go_enter Try.func59, Try.ntmps59
  go_wp2_with (at_builtin; refine Go.Lib.wpList_append_run _ rfl _ _ _ _ rfl _ _ rfl rfl _ _ (HR.out _) ?_)
  all_goals (go_ret; exact ⟨C, rfl, HO.out, HB.out⟩)
theorem RdA.len {W : World} {a : Option Addr} {xs : List Nat} (h : RdA W a xs) : xs.length = 0 ∨ ∃ q, a = Option.some q := by
  rcases h with rfl | ⟨p, off, rfl, _⟩
  · exact .inl rfl
  · exact .inr ⟨_, rfl⟩
set_option maxHeartbeats 2000000 in
theorem concat2 (q c0 : Nat) (a1 a2 : Option Addr) (c1 c2 : Nat) (xs ys : List Nat) (W : World) (hq : W.heap[q]? = some (.cells #[.slice a1 xs.length c1, .slice a2 ys.length c2] 22 (0, 0))) (r1 : RdA W a1 xs) (r2 : RdA W a2 ys) (n1 : a1 = none → c1 = 0) (n2 : a2 = none → c2 = 0) (l1 : 1 ≤ xs.length) (l2 : xs.length + ys.length ≤ 1000000) :
    Calls Try.prog 31 #[.slice (some ⟨q, 0, none⟩) 2 c0] W fun e W' => ∃ v, e = .returned v ∧ Own8 W' W.heap.size v (xs ++ ys) ∧ Below W.heap.size W W' := by
  have hql := lt_of_heap hq
  obtain ⟨N, hN⟩ : ∃ N, xs.length + ys.length = N := ⟨_, rfl⟩
  have HG := hide (grow_nil N W (by omega) (by omega))
  obtain ⟨e0, e1, _⟩ := cells2 hq
  obtain ⟨X, hX⟩ : ∃ X, xs.length = X := ⟨_, rfl⟩
  obtain ⟨Y, hY⟩ : ∃ Y, ys.length = Y := ⟨_, rfl⟩
  have HQ := hide hq; have R1 := hide r1; have R2 := hide r2; have N1 := hide n1; have N2 := hide n2; have HX := hide hX; have HY := hide hY; have HN := hide hN
  rw [hX] at e0
  rw [hY] at e1
  have hXN : X + Y = N := by omega
  have hN6 : N ≤ 1000000 := by omega
  clear hq r1 r2 n1 n2 hX hY hN l1 l2
  go_enter Try.func31, Try.ntmps31
  go_wp2
  go_loop [3, 11] (fun z i => ∃ k t : Nat, k ≤ 2 ∧ i = .int .i64 k ∧ z = .int .i64 (t : Int) ∧ Hid ((k = 0 → t = 0) ∧ (k = 1 → t = X) ∧ (k = 2 → t = N))) (fun _ i => 2 - (intOf i).toNat)
  case atStart => exact ⟨0, 0, by omega, rfl, rfl, ⟨by simp, by simp, by simp⟩⟩
  case round =>
    obtain ⟨k, t, hk, rfl, rfl, HT⟩ := hrel
    rcases (by omega : k = 0 ∨ k = 1 ∨ k = 2) with rfl | rfl | rfl
    · obtain rfl := HT.out.1 rfl
      have dX : ((X : Int) < 0) = False := eq_false (by omega)
      go_wp2
      go_round
      case rel => exact ⟨1, X, by omega, by go_num, by simp, ⟨by simp, by simp, by simp⟩⟩
      case measure => simp [intOf]
    · have ht := HT.out.2.1 rfl
      subst ht
      have wX : wrap64 ((t : Int) + (Y : Int)) = N := by unfold wrap64; omega
      have wX2 : IntKind.i64.wrap ((t : Int) + (Y : Int)) = N := by rw [IntKind.wrap_i64]; omega
      have dX : ((N : Int) < 0) = False := eq_false (by omega)
      go_wp2
      go_round
      case rel => exact ⟨2, N, by omega, by go_num, rfl, ⟨by simp, by simp, by simp⟩⟩
      case measure => simp [intOf]
    · have ht := HT.out.2.2 rfl
      subst ht
      go_wp2_with fail
      refine HG.out.mono ?_
      rintro e w1 ⟨C, rfl, ho, hb⟩
      have HO := hide ho; have HB := hide hb
      clear ho hb
      go_wp2
      go_loopw [6, 27] (fun v i wr => ∃ (k : Nat) (zs : List Nat), k ≤ 2 ∧ i = .int .i64 k ∧ Own8 wr W.heap.size v zs ∧ Below W.heap.size W wr ∧ Hid ((k = 0 → zs = []) ∧ (k = 1 → zs = xs) ∧ (k = 2 → zs = xs ++ ys))) (fun _ i _ => 2 - (intOf i).toNat)
      case atStart => exact ⟨0, [], by omega, rfl, HO.out, HB.out, ⟨by simp, by simp, by simp⟩⟩
      case round =>
        obtain ⟨k, zs, hk, rfl, ho, hb, HZ⟩ := hrel
        obtain ⟨e0, e1, _⟩ := cells2 ((hb.block q hql).trans HQ.out)
        rw [HX.out] at e0
        rw [HY.out] at e1
        have HO2 := hide ho; have HB2 := hide hb
        clear ho hb
        rcases (by omega : k = 0 ∨ k = 1 ∨ k = 2) with rfl | rfl | rfl
        · obtain rfl := HZ.out.1 rfl
          go_wp2_with (at_builtin; refine wpList_app8 rfl _ _ rfl W.heap.size _ [] rfl HO2.out a1 X c1 xs rfl HX.out.symm (R1.out.below HB2.out) N1.out (by simp; have := HX.out; omega) HB2.out.size ?_; intro v3 w3 O3 G3 _; have HO3 := hide O3; have HB3 := hide (below_own HB2.out HO2.out G3 HB2.out.size); clear O3 G3)
          go_roundw
          case rel => exact ⟨1, xs, by omega, by go_num, by have := HO3.out; rw [List.nil_append] at this; exact this, HB3.out, ⟨by simp, by simp, by simp⟩⟩
          case measure => simp [intOf]
        · obtain rfl := HZ.out.2.1 rfl
          go_wp2_with (at_builtin; refine wpList_app8 rfl _ _ rfl W.heap.size _ zs rfl HO2.out a2 Y c2 ys rfl HY.out.symm (R2.out.below HB2.out) N2.out (by have := HX.out; have := HY.out; omega) HB2.out.size ?_; intro v3 w3 O3 G3 _; have HO3 := hide O3; have HB3 := hide (below_own HB2.out HO2.out G3 HB2.out.size); clear O3 G3)
          go_roundw
          case rel => exact ⟨2, zs ++ ys, by omega, by go_num, HO3.out, HB3.out, ⟨by simp, by simp, by simp⟩⟩
          case measure => simp [intOf]
        · have HE := hide (HZ.out.2.2 rfl)
          go_wp2
          go_ret
          exact ⟨_, rfl, by rw [← HE.out]; exact HO2.out, HB2.out⟩
end Go.Proofs.Ythlfbpadakoamaa
/- package wire: encode, EncodeRequest. -/
namespace Go.Proofs.Ythlfbpadakoamaa
open Go.RowKit

def newW : Obj := .cells #[.slice none 0 0, .int .i64 0] 70
theorem Wr.make (W : World) : Wr W.heap.size (W.alloc newW) W.heap.size (.slice none 0 0) [] :=
  ⟨heap_alloc_new W _, Nat.le_refl _, by simp [Value.ownBlock], ⟨[], Own8.nil _ _, by simp, fun _ => rfl⟩, by simp⟩
theorem entw_request : entP 13 := enters_of Try.func13 (by kernel_rfl) rfl
def fnWQ : Obj := .cells #[.func (Fn.func 13) #[] #[]] 49
set_option maxHeartbeats 2000000 in
theorem encode1Q_yes (W : World) (fb xb : Nat) (ua : Option Addr) (uc : Nat) (x : ReqA) (t : List Nat) (hf : W.heap[fb]? = some fnWQ) (hx : W.heap[xb]? = some (boxQ x.kind x.src x.table x.n (.slice ua x.ups.length uc)))
    (hr : ListR UpdR mkAgg 8 W (· < W.heap.size) (.slice ua x.ups.length uc) x.ups) (hT : ReqT x t) (hl : t.length ≤ slack) :
    Calls Try.prog 29 #[.pointer (some ⟨fb, 0, none⟩), .pointer (some ⟨xb, 0, none⟩)] W fun e W' => ∃ v, e = .returned (.pointer (some ⟨W.heap.size, 0, none⟩)) ∧ Wr W.heap.size W' W.heap.size v t ∧ Below W.heap.size W W' := by
  have hfl := lt_of_heap hf
  have hxl := lt_of_heap hx
  have hB0 : Below W.heap.size W (W.alloc newW) := (Below.refl _ _).alloc (Nat.le_refl _) _
  have HB0 := hide hB0
  have HQ := hide (wreq_writes W.heap.size (W.alloc newW) W.heap.size _ [] t _ x (Wr.make W) ⟨_, rfl, rep_below (ListR.ok upd_ok _ _) hr hB0⟩ hT (by simpa using hl))
  obtain ⟨f0, _⟩ := cell1 (show W.heap[fb]? = some (.cells #[.func (Fn.func 13) #[] #[]] 49 (0, 0)) from hf)
  obtain ⟨a0, a1, a2, a3, a4, _⟩ := boxQ_cells hx
  have HM := hide (fun W' v' (m : Wm W.heap.size (W.alloc newW) (.slice none 0 0) W' v') => m.below (Wr.make W) (by simp))
  have hent := entw_request
  unfold entP at hent
  unfold newW at HQ HM HB0
  clear hf hx hr hT hl hB0
  go_enter Try.func29, Try.ntmps29
  go_wp2_with fail
  refine HQ.out.mono ?_
  rintro e w1 ⟨v1, rfl, h1, m1⟩
  have W1 := hide h1
  have B1 := hide (HB0.out.trans (HM.out _ _ m1))
  clear h1 m1
  go_wp2
  go_ret
  exact ⟨v1, rfl, W1.out, B1.out⟩
set_option maxHeartbeats 2000000 in
theorem encode1Q_bad (W : World) (fb xb : Nat) (hf : W.heap[fb]? = some fnWQ) (hx : W.heap[xb]? = some (boxQ 1 ⟨#[]⟩ ⟨#[]⟩ 1 (.slice none 0 0))) :
    Calls Try.prog 29 #[.pointer (some ⟨fb, 0, none⟩), .pointer (some ⟨xb, 0, none⟩)] W fun e W' => e = .panicked panW ∧ Below W.heap.size W W' := by
  have hfl := lt_of_heap hf
  have hxl := lt_of_heap hx
  have HB0 : Hid (Below W.heap.size W (W.alloc newW)) := hide ((Below.refl _ _).alloc (Nat.le_refl _) _)
  have HQ := hide (wreq_bad (Wr.make W) (by simp))
  obtain ⟨f0, _⟩ := cell1 (show W.heap[fb]? = some (.cells #[.func (Fn.func 13) #[] #[]] 49 (0, 0)) from hf)
  obtain ⟨a0, a1, a2, a3, a4, _⟩ := boxQ_cells hx
  have HM := hide (fun W' v' (m : Wm W.heap.size (W.alloc newW) (.slice none 0 0) W' v') => m.below (Wr.make W) (by simp))
  have hent := entw_request
  unfold entP at hent
  unfold newW at HQ HM HB0
  clear hf hx
  go_enter Try.func29, Try.ntmps29
  go_wp2_with fail
  refine HQ.out.mono ?_
  rintro e w1 ⟨rfl, v1, m1⟩
  have B1 := hide (HB0.out.trans (HM.out _ _ m1))
  clear m1
  go_wp2
  exact ⟨rfl, rfl, B1.out⟩
/- caught's own closure, for a writer. -/
theorem catchW_panic (p : Addr) (x : Bool) (older : List PanicEntry) (w : World) (hc : w.cell? p = some (.bool x)) (hz : w.frozen? p = false) :
    CallsD Try.prog 58 #[.pointer (some p)] (.panicking ({ v := .iface 97 (.agg #[]), recovered := false } :: older)) w fun e u' w' =>
      e = .returned (.tuple #[]) ∧ u' = .panicking ({ v := .iface 97 (.agg #[]), recovered := true } :: older) ∧ w' = w.setCell p (.bool false) := by
  refine callsD_of_wpS Try.func58 rfl fun c₀ cs hu => ?_
  apply wpS_seq
  apply wpS_region
  simp [wpOpsS, go_sem, recoverD, hu, Try.ntmps58, Exit.thenS]
  refine wpS_cond (t := true) (by simp [Act.eval, Array.replicate]) ?_
  simp only [if_true]
  apply wpS_region
  simp [wpOpsS, go_sem, hc, hz, bodyPostS, results, Try.results58]
theorem catchW_idle (p : Addr) (w : World) :
    CallsD Try.prog 58 #[.pointer (some p)] .returning w fun e u' w' => e = .returned (.tuple #[]) ∧ u' = .returning ∧ w' = w := by
  refine callsD_of_wpS Try.func58 rfl fun c₀ cs hu => ?_
  apply wpS_seq
  apply wpS_region
  simp [wpOpsS, go_sem, recoverD, hu, Try.ntmps58, Exit.thenS]
  refine wpS_cond (t := false) (by simp [Act.eval, Array.replicate]) ?_
  simp only [Bool.false_eq_true, if_false]
  refine wpS_of_wp (wp_skip ?_)
  cases c₀
  simp_all [bodyPostS, results, Try.results58]
/- caught, of whatever closure. -/
set_option maxHeartbeats 2000000 in
theorem caughtW_yes (W : World) (G fb xb : Nat) (t : List Nat) (hent : ∀ (args : Array Value) (w : World), (callFunc G args).run Try.prog w = .ok (.enter G args) w)
    (hD : Calls Try.prog G #[.pointer (some ⟨fb, 0, none⟩), .pointer (some ⟨xb, 0, none⟩)] (W.alloc (.cells #[.bool false] 4)) fun e W' => ∃ v, e = .returned (.pointer (some ⟨W.heap.size + 1, 0, none⟩)) ∧ Wr (W.heap.size + 1) W' (W.heap.size + 1) v t ∧ Below (W.heap.size + 1) (W.alloc (.cells #[.bool false] 4)) W') :
    Calls Try.prog 28 #[.func (Fn.func G) #[] #[.pointer (some ⟨fb, 0, none⟩), .pointer (some ⟨xb, 0, none⟩)]] W fun e W' => ∃ v, e = .returned (.tuple #[.pointer (some ⟨W.heap.size + 1, 0, none⟩), .bool true]) ∧ Wr (W.heap.size + 1) W' (W.heap.size + 1) v t ∧ Below W.heap.size W W' := by
  have hmf : ∀ (fn : Fn) (first cap : Array Value) (w : World), (Instr.makeFunc fn first cap).run Try.prog w = .ok (.func fn first cap) w := fun _ _ _ _ => rfl
  have HD := hide hD
  have HT := hide (heap_alloc_new W (.cells #[.bool false] 4))
  have HB0 : Hid (Below W.heap.size W (W.alloc (.cells #[.bool false] 4))) := hide ((Below.refl _ _).alloc (Nat.le_refl _) _)
  clear hD
  go_enter_defers Try.func28, Try.ntmps28
  go_wp2_with fail
  refine HD.out.mono ?_
  rintro e w1 ⟨v, rfl, hw, hb⟩
  have ht1 := (hb.block _ (by omega)).trans HT.out
  obtain ⟨b0, bf⟩ := cell1 ht1
  have HBL := hide (HB0.out.trans (hb.mono (by omega)))
  have HW := hide hw
  have HF : Hid (Fr (· = W.heap.size) w1 (w1.setCell ⟨W.heap.size, 0, none⟩ (.bool true))) := hide ((Fr.refl _ _).set _ _ rfl)
  clear hb hw ht1 HD
  go_wp2
  refine leaves_cons (f := 58) (args := #[.pointer (some ⟨W.heap.size, 0, none⟩)]) (by simp) (by simp [go_sem]) ?_
  refine (catchW_idle _ _).mono ?_
  rintro e u' w2 ⟨rfl, rfl, rfl⟩
  refine ⟨.tuple #[.pointer (some ⟨W.heap.size + 1, 0, none⟩), .bool true], by simp [results, Try.results28, go_sem, b0], v, rfl, ?_, HBL.out.setCell (Nat.le_refl _) _⟩
  refine HW.out.fr HF.out (by omega) (fun e => ?_)
  obtain ⟨ys, ho, _⟩ := HW.out.body
  have := (own_lt ho _ e).1
  omega
set_option maxHeartbeats 2000000 in
theorem caughtW_bad (W : World) (G fb xb : Nat) (hent : ∀ (args : Array Value) (w : World), (callFunc G args).run Try.prog w = .ok (.enter G args) w)
    (hD : Calls Try.prog G #[.pointer (some ⟨fb, 0, none⟩), .pointer (some ⟨xb, 0, none⟩)] (W.alloc (.cells #[.bool false] 4)) fun e W' => e = .panicked panW ∧ Below (W.heap.size + 1) (W.alloc (.cells #[.bool false] 4)) W') :
    Calls Try.prog 28 #[.func (Fn.func G) #[] #[.pointer (some ⟨fb, 0, none⟩), .pointer (some ⟨xb, 0, none⟩)]] W fun e W' => e = .returned (.tuple #[.pointer none, .bool false]) ∧ Below W.heap.size W W' := by
  have hmf : ∀ (fn : Fn) (first cap : Array Value) (w : World), (Instr.makeFunc fn first cap).run Try.prog w = .ok (.func fn first cap) w := fun _ _ _ _ => rfl
  have HD := hide hD
  have HT := hide (heap_alloc_new W (.cells #[.bool false] 4))
  have HB0 : Hid (Below W.heap.size W (W.alloc (.cells #[.bool false] 4))) := hide ((Below.refl _ _).alloc (Nat.le_refl _) _)
  clear hD
  go_enter_defers Try.func28, Try.ntmps28
  go_wp2_with fail
  refine HD.out.mono ?_
  rintro e w1 ⟨rfl, hb⟩
  have ht1 := (hb.block _ (by omega)).trans HT.out
  obtain ⟨b0, bf⟩ := cell1 ht1
  have HBL := hide (HB0.out.trans (hb.mono (by omega)))
  clear hb ht1 HD
  go_wp2
  refine leaves_cons (f := 58) (args := #[.pointer (some ⟨W.heap.size, 0, none⟩)]) (by simp) (by simp [go_sem]) ?_
  refine (catchW_panic ⟨W.heap.size, 0, none⟩ false [] _ b0 (bf 0)).mono ?_
  rintro e u' w2 ⟨rfl, rfl, rfl⟩
  refine ⟨.tuple #[.pointer none, .bool false], by simp [results, Try.results28, go_sem, b0], rfl, HBL.out.setCell (Nat.le_refl _) _⟩
end Go.Proofs.Ythlfbpadakoamaa
/- package wire: encode, EncodeRequest. -/
namespace Go.Proofs.Ythlfbpadakoamaa
open Go.RowKit

def fr4 (n : Nat) : List Nat := [n / 16777216 % 256, n / 65536 % 256, n / 256 % 256, n % 256]
theorem val4_fr4 (n : Nat) (h : n < 4294967296) : val4 (n / 16777216 % 256) (n / 65536 % 256) (n / 256 % 256) (n % 256) = n := by unfold val4; omega
theorem ent_enc1Q : entP 29 := enters_of Try.func29 (by kernel_rfl) rfl
/- What encode lays first: a request, and the function that tells it. -/
def startW (w : World) (O : Obj) (F : Obj) : World := (w.alloc O).alloc F
/- Behind caught: the writer has told all. -/
structure EnS (w W : World) (p : Nat) (v : Value) (t : List Nat) : Prop where
  bl : Below w.heap.size w W
  wr : Wr p W p v t
  lo : w.heap.size ≤ p
theorem EnS.next {w W W' : World} {p : Nat} {v : Value} {t : List Nat} (h : EnS w W p v t) (hb : Below W.heap.size W W') : EnS w W' p v t := ⟨h.bl.trans (hb.mono h.bl.size), h.wr.next hb, h.lo⟩
theorem EnS.alloc {w W : World} {p : Nat} {v : Value} {t : List Nat} (h : EnS w W p v t) (o : Obj) : EnS w (W.alloc o) p v t := h.next ((Below.refl _ _).alloc (Nat.le_refl _) _)
theorem EnS.drew {w W : World} {p : Nat} {v : Value} {t : List Nat} (h : EnS w W p v t) : EnS w W.drew p v t := ⟨h.bl.drew, ⟨h.wr.cell, h.wr.pB, h.wr.ne, h.wr.body, h.wr.small⟩, h.lo⟩
set_option maxHeartbeats 4000000 in
theorem encodeQ_yes (w : World) (ua : Option Addr) (uc : Nat) (x : ReqA) (t : List Nat) (hr : ListR UpdR mkAgg 8 w (· < w.heap.size) (.slice ua x.ups.length uc) x.ups) (hT : ReqT x t) (hl : t.length ≤ 65536) :
    Calls Try.prog 12 #[.agg #[.int .u8 x.kind, .string x.src, .string x.table, .int .i64 x.n, .slice ua x.ups.length uc], .func (Fn.func 13) #[] #[]] w fun e w' => ∃ v, e = .returned (.tuple #[v, .int .i64 0]) ∧ Own8 w' w.heap.size v (fr4 t.length ++ t) ∧ Below w.heap.size w w' := by
  have hmf : ∀ (fn : Fn) (first cap : Array Value) (w : World), (Instr.makeFunc fn first cap).run Try.prog w = .ok (.func fn first cap) w := fun _ _ _ _ => rfl
  obtain ⟨O, hO⟩ : ∃ O, O = boxQ x.kind x.src x.table x.n (.slice ua x.ups.length uc) := ⟨_, rfl⟩
  have hx0 : ((w.alloc O).alloc fnWQ).heap[w.heap.size]? = some O := (Below.heap_alloc _ _ _ (by simp)).trans (heap_alloc_new w _)
  have hf0 : ((w.alloc O).alloc fnWQ).heap[w.heap.size + 1]? = some fnWQ := by
    have := heap_alloc_new (w.alloc O) fnWQ
    rw [World.size_alloc] at this
    exact this
  have hz0 : ((w.alloc O).alloc fnWQ).heap.size = w.heap.size + 1 + 1 := by simp
  have hB0 : Below w.heap.size w ((w.alloc O).alloc fnWQ) := ((Below.refl _ _).alloc (Nat.le_refl _) _).alloc (by simp) _
  have hB1 : Below w.heap.size w (((w.alloc O).alloc fnWQ).alloc (.cells #[.bool false] 4)) := hB0.alloc (by rw [hz0]; omega) _
  have h1 := encode1Q_yes (((w.alloc O).alloc fnWQ).alloc (.cells #[.bool false] 4)) (w.heap.size + 1) w.heap.size ua uc x t ((Below.heap_alloc _ _ _ (by rw [hz0]; omega)).trans hf0) ((Below.heap_alloc _ _ _ (by rw [hz0]; omega)).trans (by rw [hx0, hO])) ((ListR.ok upd_ok _ _).mono (rep_below (ListR.ok upd_ok _ _) hr hB1) (fun b hb => by have hs := hB1.size; have hb' : b < w.heap.size := hb; omega)) hT (by unfold slack; omega)
  rw [World.size_alloc, hz0] at h1
  have HC := hide (caughtW_yes ((w.alloc O).alloc fnWQ) _ (w.heap.size + 1) w.heap.size t ent_enc1Q (by rw [hz0]; exact h1))
  rw [hz0] at HC
  have HB0 := hide hB0
  rw [hO] at HC HB0
  unfold boxQ fnWQ at HC HB0
  obtain ⟨n, hn⟩ : ∃ n, t.length = n := ⟨_, rfl⟩
  have HN := hide hn
  rw [hn] at hl ⊢
  have HV4 := hide (val4_fr4 n (by omega))
  have hwo := fun W => wholeOf_any (n / 16777216 % 256) (n / 65536 % 256) (n / 256 % 256) (n % 256) W (Nat.mod_lt _ (by decide)) (Nat.mod_lt _ (by decide)) (Nat.mod_lt _ (by decide)) (Nat.mod_lt _ (by decide))
  rw [HV4.out] at hwo
  unfold fr4
  generalize n / 16777216 % 256 = x0 at *
  generalize n / 65536 % 256 = x1 at *
  generalize n / 256 % 256 = x2 at *
  generalize n % 256 = x3 at *
  have HWO := hide hwo
  have d1 : ((n : Int) > 65536) = False := eq_false (by omega)
  have d2 : ((65536 : Int) < (n : Int)) = False := eq_false (by omega)
  have hw : IntKind.u32.wrap (n : Int) = n := by rw [IntKind.wrap_u32]; omega
  have HL := hide hl
  clear hr hT hl hn h1 hx0 hf0 hz0 hB0 hB1 hO hwo HV4
  go_enter Try.func12, Try.ntmps12
  go_wp2_with fail
  refine HC.out.mono ?_
  rintro e w1 ⟨v1, rfl, hw1, hb1⟩
  have E1 : Hid (EnS w w1 (w.heap.size + 1 + 1 + 1) v1 t) := hide ⟨HB0.out.trans (hb1.mono (by omega)), hw1, by omega⟩
  obtain ⟨a0, a1, _⟩ := cells2 hw1.cell
  rw [HN.out] at a1
  clear hw1 hb1 HC
  go_wp2_with fail
  refine (HWO.out w1).mono ?_
  rintro e w2 ⟨rfl, hb2⟩
  have E2 := hide (E1.out.next hb2)
  have E3 := hide (E2.out.alloc (.cells #[.int .u8 (x0 : Int), .int .u8 (x1 : Int), .int .u8 (x2 : Int), .int .u8 (x3 : Int)] 73))
  have HH := hide (heap_alloc_new w2 (.cells #[.int .u8 (x0 : Int), .int .u8 (x1 : Int), .int .u8 (x2 : Int), .int .u8 (x3 : Int)] 73))
  obtain ⟨a0, a1, _⟩ := cells2 E3.out.wr.cell
  unfold arr4
  clear hb2 E1
  generalize hW3 : w2.alloc (.cells #[.int .u8 (x0 : Int), .int .u8 (x1 : Int), .int .u8 (x2 : Int), .int .u8 (x3 : Int)] 73) = W3 at *
  have hq2 : w2.heap.size < W3.heap.size := lt_of_heap HH.out
  obtain ⟨ys, ho, _, hyt⟩ := E3.out.wr.body
  obtain rfl := hyt (by have := HN.out; have := HL.out; omega)
  obtain ⟨va, vc, hv1, hvc, hvn, _⟩ := ho.shape
  rw [HN.out] at hv1
  subst hv1
  have HRB := hide (ho.rd).2
  have HR4 : Hid (RdA W3 (some ⟨w2.heap.size, 0, none⟩) [x0, x1, x2, x3]) := hide (.inr ⟨w2.heap.size, 0, rfl, hq2, fun i hi => by
    obtain ⟨c0, c1, c2, c3, _⟩ := cells4 HH.out
    rcases (by simp at hi; omega : i = 0 ∨ i = 1 ∨ i = 2 ∨ i = 3) with rfl | rfl | rfl | rfl
    · exact c0
    · exact c1
    · exact c2
    · exact c3⟩)
  obtain ⟨O2, hO2⟩ : ∃ O2, O2 = Obj.cells #[.slice (some ⟨w2.heap.size, 0, none⟩) 4 4, .slice va n vc] 22 := ⟨_, rfl⟩
  have hBq : Below W3.heap.size W3 (W3.alloc O2).drew := ((Below.refl _ _).alloc (Nat.le_refl _) _).drew
  have HCO := hide (concat2 W3.heap.size 2 (some ⟨w2.heap.size, 0, none⟩) va 4 vc [x0, x1, x2, x3] ys (W3.alloc O2).drew (by rw [HN.out]; exact (heap_alloc_new W3 O2).trans (by rw [hO2]; rfl)) (HR4.out.below hBq) (HRB.out.below hBq) (fun e => by cases e) hvn (by simp) (by have := HN.out; have := HL.out; simp; omega))
  have HBQ := hide hBq
  rw [hO2] at HCO HBQ
  clear ho hvc hvn hyt hBq hO2
  go_wp2
  go_region_with (go_at_call 31; refine HCO.out.mono ?_; rintro e w5 ⟨v5, rfl, ho5, hb5⟩; have HO5 := hide ho5; have HB5 := hide hb5; clear ho5 hb5)
  all_goals
    go_wp2
    go_ret2
    refine ⟨v5, rfl, ?_, ?_⟩
    · exact own_base HO5.out (Nat.le_trans E3.out.bl.size HBQ.out.size)
    · exact E3.out.bl.trans ((HBQ.out.mono E3.out.bl.size).trans (HB5.out.mono (Nat.le_trans E3.out.bl.size HBQ.out.size)))
end Go.Proofs.Ythlfbpadakoamaa
/- package wire: EncodeRequest. -/
namespace Go.Proofs.Ythlfbpadakoamaa
open Go.RowKit

set_option maxHeartbeats 4000000 in
theorem encodeQ_bad (w : World) :
    Calls Try.prog 12 #[.agg #[.int .u8 1, .string ⟨#[]⟩, .string ⟨#[]⟩, .int .i64 1, .slice none 0 0], .func (Fn.func 13) #[] #[]] w fun e w' => e = .returned (.tuple #[.slice none 0 0, .int .i64 1]) ∧ Below w.heap.size w w' := by
  have hmf : ∀ (fn : Fn) (first cap : Array Value) (w : World), (Instr.makeFunc fn first cap).run Try.prog w = .ok (.func fn first cap) w := fun _ _ _ _ => rfl
  obtain ⟨O, hO⟩ : ∃ O, O = boxQ 1 ⟨#[]⟩ ⟨#[]⟩ 1 (.slice none 0 0) := ⟨_, rfl⟩
  have hx0 : ((w.alloc O).alloc fnWQ).heap[w.heap.size]? = some O := (Below.heap_alloc _ _ _ (by simp)).trans (heap_alloc_new w _)
  have hf0 : ((w.alloc O).alloc fnWQ).heap[w.heap.size + 1]? = some fnWQ := by
    have := heap_alloc_new (w.alloc O) fnWQ
    rw [World.size_alloc] at this
    exact this
  have hz0 : ((w.alloc O).alloc fnWQ).heap.size = w.heap.size + 1 + 1 := by simp
  have hB0 : Below w.heap.size w ((w.alloc O).alloc fnWQ) := ((Below.refl _ _).alloc (Nat.le_refl _) _).alloc (by simp) _
  have h1 := encode1Q_bad (((w.alloc O).alloc fnWQ).alloc (.cells #[.bool false] 4)) (w.heap.size + 1) w.heap.size ((Below.heap_alloc _ _ _ (by rw [hz0]; omega)).trans hf0) ((Below.heap_alloc _ _ _ (by rw [hz0]; omega)).trans (by rw [hx0, hO]))
  rw [World.size_alloc, hz0] at h1
  have HC := hide (caughtW_bad ((w.alloc O).alloc fnWQ) _ (w.heap.size + 1) w.heap.size ent_enc1Q (by rw [hz0]; exact h1))
  rw [hz0] at HC
  have HB0 := hide hB0
  rw [hO] at HC HB0
  unfold boxQ fnWQ at HC HB0
  clear h1 hx0 hf0 hz0 hB0 hO
  go_enter Try.func12, Try.ntmps12
  go_wp2_with fail
  refine HC.out.mono ?_
  rintro e w1 ⟨rfl, hb1⟩
  have B1 := hide (HB0.out.trans (hb1.mono (by omega)))
  clear hb1 HC
  go_wp2
  go_ret2
  exact ⟨rfl, B1.out⟩
set_option maxHeartbeats 2000000 in
theorem encRequest_yes (w : World) (u : Value) (x : ReqA) (t : List Nat) (hr : ReqR w (· < w.heap.size) u x) (hT : ReqT x t) (hl : t.length ≤ 65536) :
    Calls Try.prog 6 #[u] w fun e w' => ∃ v, e = .returned (.tuple #[v, .int .i64 0]) ∧ Own8 w' w.heap.size v (fr4 t.length ++ t) ∧ Below w.heap.size w w' := by
  obtain ⟨vu, rfl, hvu⟩ := hr
  obtain ⟨ua, uc, rfl⟩ := list_slice hvu
  obtain ⟨O, hO⟩ : ∃ O, O = boxQ x.kind x.src x.table x.n (.slice ua x.ups.length uc) := ⟨_, rfl⟩
  have hB0 : Below w.heap.size w (w.alloc O) := (Below.refl _ _).alloc (Nat.le_refl _) _
  have HE := hide (encodeQ_yes (w.alloc O) ua uc x t ((ListR.ok upd_ok _ _).mono (rep_below (ListR.ok upd_ok _ _) hvu hB0) (fun b hb => by have hb' : b < w.heap.size := hb; simp; omega)) hT hl)
  have HB0 := hide hB0
  rw [hO] at HE HB0
  unfold boxQ at HE HB0
  clear hvu hT hl hB0 hO
  go_enter Try.func6, Try.ntmps6
  go_wp2_with fail
  refine HE.out.mono ?_
  rintro e w1 ⟨v1, rfl, ho, hb⟩
  have HO := hide (own_base ho HB0.out.size)
  have B1 := hide (HB0.out.trans (hb.mono HB0.out.size))
  clear ho hb
  go_wp2
  go_ret2
  exact ⟨v1, rfl, HO.out, B1.out⟩
theorem encRequest_bad (w : World) :
    Calls Try.prog 6 #[.agg #[.int .u8 1, .string ⟨#[]⟩, .string ⟨#[]⟩, .int .i64 1, .slice none 0 0]] w fun e w' => e = .returned (.tuple #[.slice none 0 0, .int .i64 1]) ∧ Below w.heap.size w w' := by
  have HE := hide (encodeQ_bad (w.alloc (.cells #[.int .u8 1, .string ⟨#[]⟩, .string ⟨#[]⟩, .int .i64 1, .slice none 0 0] 27)))
  have HB0 : Hid (Below w.heap.size w (w.alloc (.cells #[.int .u8 1, .string ⟨#[]⟩, .string ⟨#[]⟩, .int .i64 1, .slice none 0 0] 27))) := hide ((Below.refl _ _).alloc (Nat.le_refl _) _)
  go_enter Try.func6, Try.ntmps6
  go_wp2_with fail
  refine HE.out.mono ?_
  rintro e w1 ⟨rfl, hb⟩
  have B1 := hide (HB0.out.trans (hb.mono HB0.out.size))
  clear hb
  go_wp2
  go_ret2
  exact ⟨rfl, B1.out⟩
end Go.Proofs.Ythlfbpadakoamaa
/- package wire: EncodeReply. -/
namespace Go.Proofs.Ythlfbpadakoamaa
open Go.RowKit

def boxP (er at' : Int) (ve : Value) (b : BitsA) : Obj := .cells #[.int .i64 er, .int .i64 at', ve, .int .i64 b.w, .int .u64 b.hi, .int .u64 b.lo] 39
theorem boxP_cells {W : World} {s : Nat} {er at' : Int} {ve : Value} {b : BitsA} (h : W.heap[s]? = some (boxP er at' ve b)) : W.cell? ⟨s, 0, none⟩ = some (.int .i64 er) ∧ W.cell? ⟨s, 1, none⟩ = some (.int .i64 at') ∧ W.cell? ⟨s, 2, none⟩ = some ve ∧ W.cell? ⟨s, 3, none⟩ = some (.int .i64 b.w) ∧ W.cell? ⟨s, 4, none⟩ = some (.int .u64 b.hi) ∧ W.cell? ⟨s, 5, none⟩ = some (.int .u64 b.lo) ∧ ∀ o, W.frozen? ⟨s, o, none⟩ = false := cells6 h
theorem entw_reply : entP 17 := enters_of Try.func17 (by kernel_rfl) rfl
def fnWP : Obj := .cells #[.func (Fn.func 17) #[] #[]] 56
set_option maxHeartbeats 2000000 in
theorem encode1P_yes (W : World) (fb xb : Nat) (ua : Option Addr) (uc : Nat) (x : RepA) (t : List Nat) (hf : W.heap[fb]? = some fnWP) (hx : W.heap[xb]? = some (boxP x.err x.at' (.slice ua x.ents.length uc) x.val))
    (hr : ListR EntryR mkAgg 4 W (· < W.heap.size) (.slice ua x.ents.length uc) x.ents) (hT : RepT x t) (hl : t.length ≤ slack) :
    Calls Try.prog 45 #[.pointer (some ⟨fb, 0, none⟩), .pointer (some ⟨xb, 0, none⟩)] W fun e W' => ∃ v, e = .returned (.pointer (some ⟨W.heap.size, 0, none⟩)) ∧ Wr W.heap.size W' W.heap.size v t ∧ Below W.heap.size W W' := by
  have hfl := lt_of_heap hf
  have hxl := lt_of_heap hx
  have hB0 : Below W.heap.size W (W.alloc newW) := (Below.refl _ _).alloc (Nat.le_refl _) _
  have HB0 := hide hB0
  have HQ := hide (wreply_writes W.heap.size (W.alloc newW) W.heap.size _ [] t _ x (Wr.make W) ⟨_, rfl, rep_below (ListR.ok entry_ok _ _) hr hB0⟩ hT (by simpa using hl))
  obtain ⟨f0, _⟩ := cell1 (show W.heap[fb]? = some (.cells #[.func (Fn.func 17) #[] #[]] 56 (0, 0)) from hf)
  obtain ⟨a0, a1, a2, a3, a4, a5, _⟩ := boxP_cells hx
  have HM := hide (fun W' v' (m : Wm W.heap.size (W.alloc newW) (.slice none 0 0) W' v') => m.below (Wr.make W) (by simp))
  have hent := entw_reply
  unfold entP at hent
  unfold newW at HQ HM HB0
  clear hf hx hr hT hl hB0
  go_enter Try.func45, Try.ntmps45
  go_wp2_with fail
  refine HQ.out.mono ?_
  rintro e w1 ⟨v1, rfl, h1, m1⟩
  have W1 := hide h1
  have B1 := hide (HB0.out.trans (HM.out _ _ m1))
  clear h1 m1
  go_wp2
  go_ret
  exact ⟨v1, rfl, W1.out, B1.out⟩
theorem ent_enc1P : entP 45 := enters_of Try.func45 (by kernel_rfl) rfl
set_option maxHeartbeats 4000000 in
theorem encodeP_yes (w : World) (ua : Option Addr) (uc : Nat) (x : RepA) (t : List Nat) (hr : ListR EntryR mkAgg 4 w (· < w.heap.size) (.slice ua x.ents.length uc) x.ents) (hT : RepT x t) (hl : t.length ≤ 65536) :
    Calls Try.prog 16 #[.agg #[.int .i64 x.err, .int .i64 x.at', .slice ua x.ents.length uc, .int .i64 x.val.w, .int .u64 x.val.hi, .int .u64 x.val.lo], .func (Fn.func 17) #[] #[]] w fun e w' => ∃ v, e = .returned (.tuple #[v, .int .i64 0]) ∧ Own8 w' w.heap.size v (fr4 t.length ++ t) ∧ Below w.heap.size w w' := by
  have hmf : ∀ (fn : Fn) (first cap : Array Value) (w : World), (Instr.makeFunc fn first cap).run Try.prog w = .ok (.func fn first cap) w := fun _ _ _ _ => rfl
  obtain ⟨O, hO⟩ : ∃ O, O = boxP x.err x.at' (.slice ua x.ents.length uc) x.val := ⟨_, rfl⟩
  have hx0 : ((w.alloc O).alloc fnWP).heap[w.heap.size]? = some O := (Below.heap_alloc _ _ _ (by simp)).trans (heap_alloc_new w _)
  have hf0 : ((w.alloc O).alloc fnWP).heap[w.heap.size + 1]? = some fnWP := by
    have := heap_alloc_new (w.alloc O) fnWP
    rw [World.size_alloc] at this
    exact this
  have hz0 : ((w.alloc O).alloc fnWP).heap.size = w.heap.size + 1 + 1 := by simp
  have hB0 : Below w.heap.size w ((w.alloc O).alloc fnWP) := ((Below.refl _ _).alloc (Nat.le_refl _) _).alloc (by simp) _
  have hB1 : Below w.heap.size w (((w.alloc O).alloc fnWP).alloc (.cells #[.bool false] 4)) := hB0.alloc (by rw [hz0]; omega) _
  have h1 := encode1P_yes (((w.alloc O).alloc fnWP).alloc (.cells #[.bool false] 4)) (w.heap.size + 1) w.heap.size ua uc x t ((Below.heap_alloc _ _ _ (by rw [hz0]; omega)).trans hf0) ((Below.heap_alloc _ _ _ (by rw [hz0]; omega)).trans (by rw [hx0, hO])) ((ListR.ok entry_ok _ _).mono (rep_below (ListR.ok entry_ok _ _) hr hB1) (fun b hb => by have hs := hB1.size; have hb' : b < w.heap.size := hb; omega)) hT (by unfold slack; omega)
  rw [World.size_alloc, hz0] at h1
  have HC := hide (caughtW_yes ((w.alloc O).alloc fnWP) _ (w.heap.size + 1) w.heap.size t ent_enc1P (by rw [hz0]; exact h1))
  rw [hz0] at HC
  have HB0 := hide hB0
  rw [hO] at HC HB0
  unfold boxP fnWP at HC HB0
  obtain ⟨n, hn⟩ : ∃ n, t.length = n := ⟨_, rfl⟩
  have HN := hide hn
  rw [hn] at hl ⊢
  have HV4 := hide (val4_fr4 n (by omega))
  have hwo := fun W => wholeOf_any (n / 16777216 % 256) (n / 65536 % 256) (n / 256 % 256) (n % 256) W (Nat.mod_lt _ (by decide)) (Nat.mod_lt _ (by decide)) (Nat.mod_lt _ (by decide)) (Nat.mod_lt _ (by decide))
  rw [HV4.out] at hwo
  unfold fr4
  generalize n / 16777216 % 256 = x0 at *
  generalize n / 65536 % 256 = x1 at *
  generalize n / 256 % 256 = x2 at *
  generalize n % 256 = x3 at *
  have HWO := hide hwo
  have d1 : ((n : Int) > 65536) = False := eq_false (by omega)
  have d2 : ((65536 : Int) < (n : Int)) = False := eq_false (by omega)
  have hw : IntKind.u32.wrap (n : Int) = n := by rw [IntKind.wrap_u32]; omega
  have HL := hide hl
  clear hr hT hl hn h1 hx0 hf0 hz0 hB0 hB1 hO hwo HV4
  go_enter Try.func16, Try.ntmps16
  go_wp2_with fail
  refine HC.out.mono ?_
  rintro e w1 ⟨v1, rfl, hw1, hb1⟩
  have E1 : Hid (EnS w w1 (w.heap.size + 1 + 1 + 1) v1 t) := hide ⟨HB0.out.trans (hb1.mono (by omega)), hw1, by omega⟩
  obtain ⟨a0, a1, _⟩ := cells2 hw1.cell
  rw [HN.out] at a1
  clear hw1 hb1 HC
  go_wp2_with fail
  refine (HWO.out w1).mono ?_
  rintro e w2 ⟨rfl, hb2⟩
  have E2 := hide (E1.out.next hb2)
  have E3 := hide (E2.out.alloc (.cells #[.int .u8 (x0 : Int), .int .u8 (x1 : Int), .int .u8 (x2 : Int), .int .u8 (x3 : Int)] 73))
  have HH := hide (heap_alloc_new w2 (.cells #[.int .u8 (x0 : Int), .int .u8 (x1 : Int), .int .u8 (x2 : Int), .int .u8 (x3 : Int)] 73))
  obtain ⟨a0, a1, _⟩ := cells2 E3.out.wr.cell
  unfold arr4
  clear hb2 E1
  generalize hW3 : w2.alloc (.cells #[.int .u8 (x0 : Int), .int .u8 (x1 : Int), .int .u8 (x2 : Int), .int .u8 (x3 : Int)] 73) = W3 at *
  have hq2 : w2.heap.size < W3.heap.size := lt_of_heap HH.out
  obtain ⟨ys, ho, _, hyt⟩ := E3.out.wr.body
  obtain rfl := hyt (by have := HN.out; have := HL.out; omega)
  obtain ⟨va, vc, hv1, hvc, hvn, _⟩ := ho.shape
  rw [HN.out] at hv1
  subst hv1
  have HRB := hide (ho.rd).2
  have HR4 : Hid (RdA W3 (some ⟨w2.heap.size, 0, none⟩) [x0, x1, x2, x3]) := hide (.inr ⟨w2.heap.size, 0, rfl, hq2, fun i hi => by
    obtain ⟨c0, c1, c2, c3, _⟩ := cells4 HH.out
    rcases (by simp at hi; omega : i = 0 ∨ i = 1 ∨ i = 2 ∨ i = 3) with rfl | rfl | rfl | rfl
    · exact c0
    · exact c1
    · exact c2
    · exact c3⟩)
  obtain ⟨O2, hO2⟩ : ∃ O2, O2 = Obj.cells #[.slice (some ⟨w2.heap.size, 0, none⟩) 4 4, .slice va n vc] 22 := ⟨_, rfl⟩
  have hBq : Below W3.heap.size W3 (W3.alloc O2).drew := ((Below.refl _ _).alloc (Nat.le_refl _) _).drew
  have HCO := hide (concat2 W3.heap.size 2 (some ⟨w2.heap.size, 0, none⟩) va 4 vc [x0, x1, x2, x3] ys (W3.alloc O2).drew (by rw [HN.out]; exact (heap_alloc_new W3 O2).trans (by rw [hO2]; rfl)) (HR4.out.below hBq) (HRB.out.below hBq) (fun e => by cases e) hvn (by simp) (by have := HN.out; have := HL.out; simp; omega))
  have HBQ := hide hBq
  rw [hO2] at HCO HBQ
  clear ho hvc hvn hyt hBq hO2
  go_wp2
  go_region_with (go_at_call 31; refine HCO.out.mono ?_; rintro e w5 ⟨v5, rfl, ho5, hb5⟩; have HO5 := hide ho5; have HB5 := hide hb5; clear ho5 hb5)
  all_goals
    go_wp2
    go_ret2
    refine ⟨v5, rfl, ?_, ?_⟩
    · exact own_base HO5.out (Nat.le_trans E3.out.bl.size HBQ.out.size)
    · exact E3.out.bl.trans ((HBQ.out.mono E3.out.bl.size).trans (HB5.out.mono (Nat.le_trans E3.out.bl.size HBQ.out.size)))
set_option maxHeartbeats 2000000 in
theorem encReply_yes (w : World) (u : Value) (x : RepA) (t : List Nat) (hr : RepR w (· < w.heap.size) u x) (hT : RepT x t) (hl : t.length ≤ 65536) :
    Calls Try.prog 9 #[u] w fun e w' => ∃ v, e = .returned (.tuple #[v, .int .i64 0]) ∧ Own8 w' w.heap.size v (fr4 t.length ++ t) ∧ Below w.heap.size w w' := by
  obtain ⟨vu, rfl, hvu⟩ := hr
  obtain ⟨ua, uc, rfl⟩ := list_slice hvu
  obtain ⟨O, hO⟩ : ∃ O, O = boxP x.err x.at' (.slice ua x.ents.length uc) x.val := ⟨_, rfl⟩
  have hB0 : Below w.heap.size w (w.alloc O) := (Below.refl _ _).alloc (Nat.le_refl _) _
  have HE := hide (encodeP_yes (w.alloc O) ua uc x t ((ListR.ok entry_ok _ _).mono (rep_below (ListR.ok entry_ok _ _) hvu hB0) (fun b hb => by have hb' : b < w.heap.size := hb; simp; omega)) hT hl)
  have HB0 := hide hB0
  rw [hO] at HE HB0
  unfold boxP at HE HB0
  clear hvu hT hl hB0 hO
  go_enter Try.func9, Try.ntmps9
  go_wp2_with fail
  refine HE.out.mono ?_
  rintro e w1 ⟨v1, rfl, ho, hb⟩
  have HO := hide (own_base ho HB0.out.size)
  have B1 := hide (HB0.out.trans (hb.mono HB0.out.size))
  clear ho hb
  go_wp2
  go_ret2
  exact ⟨v1, rfl, HO.out, B1.out⟩
end Go.Proofs.Ythlfbpadakoamaa
/- pointsmanlaw01.SameBytes of the same bytes. -/
namespace Go.Proofs.Ythlfbpadakoamaa
open Go.RowKit

theorem same_rd (l : List Nat) (hl : l.length ≤ 1000000000) (a b : Option Addr) (c d : Nat) (w : World) (ha : RdA w a l) (hb : RdA w b l) :
    Calls Try.prog 7 #[.slice a l.length c, .slice b l.length d] w fun e w' => e = .returned (.bool true) ∧ Below w.heap.size w w' := by
  have HA := hide ha; have HB := hide hb
  clear ha hb
  go_enter Try.func7, Try.ntmps7
  go_wp2
  go_loopw [5] (fun i wr => ∃ k : Nat, k ≤ l.length ∧ i = .int .i64 k ∧ Below w.heap.size w wr) (fun i _ => l.length - (intOf i).toNat)
  case atStart => exact ⟨0, Nat.zero_le _, rfl, Below.refl _ _⟩
  case round =>
    obtain ⟨k, hk, rfl, hnx⟩ := hrel
    have HN := hide hnx
    by_cases hlt : k < l.length
    · obtain ⟨p, o1, rfl, _, h1⟩ := (HA.out.below hnx).some (by omega)
      obtain ⟨q, o2, rfl, _, h2⟩ := (HB.out.below hnx).some (by omega)
      have hca := h1 k hlt
      have hcb := h2 k hlt
      have hlI : (k : Int) < (l.length : Int) := by omega
      clear h1 h2 hnx HA HB
      generalize l[k] = x at *
      go_wp2
      go_region
      all_goals
        go_wp2
        go_roundw
        case rel => exact ⟨k + 1, by omega, by go_num, HN.out.drew⟩
        case measure => simp [intOf]; omega
    · clear hnx HA HB
      go_wp2
      go_ret
      exact ⟨rfl, HN.out⟩
theorem lit_rd (w : World) (l : List Nat) (vs : Array Value) (t : TypeId) (hv : vs.toList = u8s l) : RdA (w.alloc (.cells vs t)) (some ⟨w.heap.size, 0, none⟩) l := by
  refine .inr ⟨w.heap.size, 0, rfl, by simp, fun i hi => ?_⟩
  have h : (w.alloc (.cells vs t)).heap[w.heap.size]? = some (.cells vs t (0, 0)) := heap_alloc_new w _
  have hi2 : vs[0 + i]? = some (.int .u8 (l[i] : Nat)) := by
    rw [Nat.zero_add, ← Array.getElem?_toList, hv]; simp [u8s, hi]
  unfold World.cell?
  simp only [h]
  exact hi2
end Go.Proofs.Ythlfbpadakoamaa
