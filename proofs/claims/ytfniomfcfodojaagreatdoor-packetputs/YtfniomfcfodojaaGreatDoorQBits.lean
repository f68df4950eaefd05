/- bitsOf's closure, walked. -/
import Derived.Test.YtfniomfcfodojaaGreatDoorQIter
namespace Go.Proofs.YtfniomfcfodojaaGreatDoor
open Go.RowKit Go.Shelf

attribute [local go_sem] Oper.semAt_some

theorem new3 (W : World) (x y z : Value) (t : TypeId) : (W.alloc (.cells #[x, y, z] t)).cell? ⟨W.heap.size, 0, none⟩ = some x ∧ (W.alloc (.cells #[x, y, z] t)).cell? ⟨W.heap.size, 1, none⟩ = some y ∧ (W.alloc (.cells #[x, y, z] t)).cell? ⟨W.heap.size, 2, none⟩ = some z := by
  have hh : (W.alloc (.cells #[x, y, z] t)).heap[W.heap.size]? = some (.cells #[x, y, z] t (0, 0)) := heap_alloc_new W _
  refine ⟨?_, ?_, ?_⟩ <;> (unfold World.cell?; simp only [hh]; rfl)
set_option maxRecDepth 100000 in
set_option maxHeartbeats 2000000 in
theorem bits1_in (n : Nat) (hn : 1 ≤ n) (l Bl b off cap : Nat) (L : List (Int × Nat)) (a : Option Addr) (E : Nat → Prop) (J Jx : List Bit01 → World → Prop)
    (hv : ∀ j (h : j < L.length), L[j].2 < top) (hl : L.length ≤ 1000000) (hok : ∀ j (h : j < L.length), okN L[j].1 L[j].2 = true) (ha : a = some ⟨b, off, none⟩ ∨ L.length = 0)
    (hJb : ∀ pre W W', J pre W → Below W.heap.size W W' → J pre W')
    (hY : ∀ pre x W, J pre W → pre.length < sumTo L L.length → YieldAt Fence.wide (n - 1) Tryz.prog l (enc1 x) W fun e W' =>
      ∃ r : Bool, e = .returned (.bool r) ∧ ((r = true ∧ J (pre ++ [x]) W' ∧ KeepC E W W') ∨ (r = false ∧ Jx (pre ++ [x]) W')))
    (W : World) (hBl : W.cell? ⟨Bl, 0, none⟩ = some (.slice a L.length cap)) (hL : RdN W b off L) (e2 : ¬ E b) (e3 : ∀ x, W.heap.size ≤ x → ¬ E x) (hJ : J [] W) :
    CallsIn Fence.wide n Tryz.prog 109 #[.func (.yield l) #[] #[], .pointer (some ⟨Bl, 0, none⟩)] W fun e W' => (∃ v, e = .returned v) ∧
      ((∃ ys, ys = stream L L.length ∧ J ys W') ∨ (∃ pre, True ∧ Jx pre W')) := by
  have HL := hide hL; have HO := hide hok; have HV := hide hv
  clear hL hok hv
  refine callsIn_of_wp Tryz.func109 rfl trivial ?_ rfl
  simp only [Tryz.ntmps109, List.size_toArray, List.length_cons, List.length_nil, Nat.reduceAdd, Nat.reduceSub, Array.replicate_succ, Array.replicate_zero, List.push_toArray, List.append_toArray, List.nil_append, List.cons_append]
  gi_wp2
  gi_loopw [8] (fun i wr => ∃ k : Nat, k ≤ L.length ∧ i = .int .i64 k ∧ J (stream L k) wr ∧ KeepC E W wr)
    (fun i _ => L.length - (intOf i).toNat)
  case atStart => exact ⟨0, Nat.zero_le _, rfl, hJ, KeepC.refl⟩
  case round =>
    obtain ⟨k, hk, rfl, hJs, hnx⟩ := hrel
    by_cases hlt : k < L.length
    · obtain rfl : a = some ⟨b, off, none⟩ := by rcases ha with h | h; exact h; omega
      have hkI : (k : Int) < (L.length : Int) := by omega
      have c0 := hnx.cell (HL.out.c0 k hlt) e2
      have c1 := hnx.cell (HL.out.c1 k hlt) e2
      have c2 := hnx.cell (HL.out.c2 k hlt) e2
      have hp := ok_parts (HO.out k hlt)
      have HS := hide (stream_succ L k hlt)
      have HB := hide (fun W j (hj : j < 128) => bitAt_any L[k].1 L[k].2 j W (HV.out k hlt) hj)
      have hle := hide (sumTo_succ L k hlt)
      have hmo := hide (sumTo_mono L (show k + 1 ≤ L.length by omega))
      have hsl := hide (stream_length L k)
      obtain ⟨nn, hnn⟩ : ∃ nn : Nat, L[k].1 = (nn : Int) := ⟨L[k].1.toNat, by omega⟩
      have hnn1 : 1 ≤ nn := by omega
      have hnn2 : nn ≤ 128 := by omega
      have HN := hide hnx; have HJ := hide hJs
      have HY := hide hY
      clear hp hnx hJs hY
      generalize hvv : L[k].2 = v at *
      generalize L[k].1 = nI at *
      subst hnn
      rw [Int.toNat_natCast] at HS hle
      generalize hHv : wHi v = hh at *
      generalize hLv : wLo v = ll at *
      have n3 := hide (new3 wr (.int .i64 nn) (.int .u64 hh) (.int .u64 ll) 67)
      have HEB : Hid (¬ E wr.heap.size) := e3 _ HN.out.1
      gi_wp2
      gi_loopw [5] (fun r wi => ∃ m : Nat, m ≤ nn ∧ r = .int .i64 ((m : Int) - 1) ∧ J (stream L k ++ nbits nn v (nn - m)) wi ∧ KeepC E W wi ∧ wi.cell? ⟨wr.heap.size, 0, none⟩ = some (.int .i64 nn) ∧ wi.cell? ⟨wr.heap.size, 1, none⟩ = some (.int .u64 hh) ∧ wi.cell? ⟨wr.heap.size, 2, none⟩ = some (.int .u64 ll)) (fun r _ => (intOf r + 1).toNat)
      case atStart => exact ⟨nn, Nat.le_refl _, rfl, by rw [Nat.sub_self]; simp only [nbits, List.range_zero, List.map_nil, List.append_nil]; exact hJb _ _ _ HJ.out ((Below.refl _ _).alloc (Nat.le_refl _) _), HN.out.alloc _, n3.out⟩
      case round =>
        obtain ⟨m, hm, rfl, hJi, hki, d0, d1, d2⟩ := hrel
        cases m with
        | zero =>
          have HJi := hide hJi; have HKi := hide hki
          clear hJi hki
          gi_wp2
          go_roundw
          case rel => exact ⟨k + 1, by omega, by go_num, by rw [HS.out]; exact HJi.out, HKi.out⟩
          case measure => simp [intOf]; omega
        | succ m =>
          have em : ((m + 1 : Nat) : Int) - 1 = (m : Int) := by omega
          rw [em]
          have HJi := hide hJi; have HKi := hide hki
          clear hJi hki
          have hlen : (stream L k ++ nbits nn v (nn - (m + 1))).length < sumTo L L.length := by
            rw [List.length_append, hsl.out, nbits_length]; have h1 := hle.out; have h2 := hmo.out; omega
          have HBm := hide (fun W => HB.out W m (by omega))
          obtain ⟨bb, hbb⟩ : ∃ bb, bb = ((v / 2 ^ m % 2 : Nat) : Int) := ⟨_, rfl⟩
          have hbx : bb = 0 ∨ bb = 1 := by have := Nat.mod_lt (v / 2 ^ m) (by decide : 2 > 0); omega
          have HX : Hid ((⟨bb, hbx⟩ : Bit01) = nbit nn v (nn - (m + 1))) := Subtype.ext (by show bb = ((v / 2 ^ (nn - 1 - (nn - (m + 1))) % 2 : Nat) : Int); rw [show nn - 1 - (nn - (m + 1)) = m by omega]; exact hbb)
          rw [← hbb] at HBm
          clear hbb
          gi_wp2_with fail
          refine ⟨trivial, ?_⟩
          refine (callsIn_wide.2 (HBm.out _)).mono ?_
          rintro e w5 ⟨rfl, hb5⟩
          have K5 := hide (HKi.out.t (KeepC.ofBelow hb5))
          have D5 : Hid (w5.cell? ⟨_, 0, none⟩ = some (.int .i64 nn) ∧ w5.cell? ⟨_, 1, none⟩ = some (.int .u64 hh) ∧ w5.cell? ⟨_, 2, none⟩ = some (.int .u64 ll)) := ⟨(KeepC.ofBelow hb5).cell d0 HEB.out, (KeepC.ofBelow hb5).cell d1 HEB.out, (KeepC.ofBelow hb5).cell d2 HEB.out⟩
          obtain ⟨fn, tmps, assign, body, hy, hR⟩ := HY.out _ ⟨_, hbx⟩ w5 (hJb _ _ _ HJi.out hb5) hlen
          dsimp only [enc1] at hy
          clear d0 d1 d2 hb5
          gi_wp2
          refine hR.mono ?_
          rintro e W3 ⟨r, rfl, hres⟩
          rcases hres with ⟨rfl, hJ3, hk3⟩ | ⟨rfl, hJx3⟩
          · have HJ3 := hide hJ3; have HK3 := hide hk3
            clear hJ3 hk3
            gi_wp2
            go_roundw
            case rel => exact ⟨m, by omega, by go_num, by rw [show nn - m = nn - (m + 1) + 1 by omega, nbits_succ, ← HX.out, ← List.append_assoc]; exact HJ3.out, K5.out.t HK3.out, HK3.out.cell D5.out.1 HEB.out, HK3.out.cell D5.out.2.1 HEB.out, HK3.out.cell D5.out.2.2 HEB.out⟩
            case measure => simp [intOf]
          · gi_wp2
            refine bodyPost_ret (results_none rfl _ _ _) rfl ?_
            exact ⟨⟨_, rfl⟩, .inr ⟨_, trivial, hJx3⟩⟩
    · obtain rfl : k = L.length := by omega
      gi_wp2
      go_end0
      exact ⟨⟨_, rfl⟩, .inl ⟨_, rfl, hJs⟩⟩
theorem bits_stops (n : Nat) (hn : 1 ≤ n) (Bl b off cap : Nat) (L : List (Int × Nat)) (a : Option Addr) (E : Nat → Prop) (w : World)
    (hv : ∀ j (h : j < L.length), L[j].2 < top) (hl : L.length ≤ 1000000) (hok : ∀ j (h : j < L.length), okN L[j].1 L[j].2 = true) (ha : a = some ⟨b, off, none⟩ ∨ L.length = 0)
    (hBl : LC w Bl (.slice a L.length cap)) (hL : RdN w b off L) (e2 : ¬ E b) (e3 : ∀ x, w.heap.size ≤ x → ¬ E x) :
    SeqStopsK Fence.wide n Tryz.prog 109 #[.pointer (some ⟨Bl, 0, none⟩)] enc1 (KeepC E) (fun ys => ys = stream L L.length) (fun _ => True) (sumTo L L.length) w := fun l J Jx W hW hJa _ hY hJ =>
  bits1_in n hn l Bl b off cap L a E J Jx hv hl hok ha
    (fun pre W W' h hb => hJa pre W _ none h ⟨hb.os, hb.tape, hb.output, hb.size, fun k hk _ => hb.block k hk⟩ (fun r e => by cases e))
    (fun pre x W1 h1 h2 => by
      obtain ⟨fn, tmps, assign, body, hy, hR⟩ := hY pre x W1 h1 h2
      refine ⟨fn, tmps, assign, body, hy, hR.mono ?_⟩
      rintro e W' (⟨rfl, h3, h4⟩ | ⟨rfl, h3⟩)
      · exact ⟨true, rfl, .inl ⟨rfl, h3, h4⟩⟩
      · exact ⟨false, rfl, .inr ⟨rfl, h3⟩⟩)
    W ((hW.cell (p := ⟨Bl, 0, none⟩) hBl.lt).trans hBl.1) (hL.keep hW) e2 (fun x hx => e3 x (Nat.le_trans hW.size hx)) hJ
theorem bitsOf_any (v : Value) (a : Option Addr) (m c : Nat) (hv : v = .slice a m c) (w : World) : Calls Tryz.prog 13 #[v] w fun e w' =>
    e = .returned (.func (.func 109) #[] #[.pointer (some ⟨w.heap.size, 0, none⟩)]) ∧ w' = w.alloc (.cells #[v] 22) := by
  subst hv
  go_enter Tryz.func13, Tryz.ntmps13
  go_wp2
  go_ret
  exact ⟨rfl, rfl⟩
end Go.Proofs.YtfniomfcfodojaaGreatDoor
