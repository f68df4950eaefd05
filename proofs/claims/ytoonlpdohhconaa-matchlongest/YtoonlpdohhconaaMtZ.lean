/- MatchExact, walked for every list of numbers. -/
import Derived.Test.YtoonlpdohhconaaMtY
namespace Go.Proofs.Ytoonlpdohhconaa
open Go.RowKit

/- Numbers of 16 bits that can be read. -/
def RdH (W : World) (a : Option Addr) (xs : List Nat) : Prop :=
  xs = [] ∨ ∃ p off, a = some ⟨p, off, none⟩ ∧ p < W.heap.size ∧ ∀ i (h : i < xs.length), W.cell? ⟨p, off + i, none⟩ = some (.int .u16 (xs[i] : Nat))
theorem RdH.below {W W' : World} {a : Option Addr} {xs : List Nat} (h : RdH W a xs) (hb : Below W.heap.size W W') : RdH W' a xs := by
  rcases h with h | ⟨p, off, rfl, hp, hc⟩
  · exact .inl h
  · exact .inr ⟨p, off, rfl, Nat.lt_of_lt_of_le hp hb.size, fun i hi => (hb.cell (p := ⟨p, off + i, none⟩) hp).trans (hc i hi)⟩
theorem RdH.some {W : World} {a : Option Addr} {xs : List Nat} (h : RdH W a xs) (hx : 0 < xs.length) : ∃ p off, a = some ⟨p, off, none⟩ ∧ p < W.heap.size ∧ ∀ i (h : i < xs.length), W.cell? ⟨p, off + i, none⟩ = some (.int .u16 (xs[i] : Nat)) := by
  rcases h with rfl | h
  · simp at hx
  · exact h
theorem mx16_r {v : Nat} (h : v < 65536) : MxR (mx16 v) := ⟨⟨⟨by simp [mx16], by simp [mx16]⟩, u64R0, ⟨by simp [mx16], by simp only [mx16]; omega⟩⟩, ⟨i64R0, u64R0, u64R0⟩, i64R0⟩
theorem nb16 {v : Nat} (h : v < 65536) : ∀ b ∈ [(⟨16, 0, v⟩ : Nb)], NbR b := fun b hb => by
  have : b = ⟨16, 0, v⟩ := by simpa using hb
  rw [this]; exact ⟨⟨by simp, by simp⟩, u64R0, ⟨by simp, by simp only; omega⟩⟩
set_option maxRecDepth 100000 in
set_option maxHeartbeats 8000000 in
theorem matchExact_any (a : Option Addr) (cap : Nat) (xs : List Nat) (key : Nat) (w : World) (hr : RdH w a xs) (hx : ∀ x ∈ xs, x < 65536) (hk : key < 65536) :
    Calls Try.prog 7 #[.slice a xs.length cap, .int .u16 (key : Nat)] w fun e w' => e = .returned (.bool true) ∧ Below w.heap.size w w' := by
  have HLV : Hid (Pure _ _ _) := lives_any
  by_cases h300 : 300 < xs.length
  · have d1 : ((xs.length : Int) > 300) = True := by simp; omega
    have d2 : (300 < xs.length) = True := by simp; omega
    clear hr hx hk h300
    go_enter Try.func7, Try.ntmps7
    go_wp2_with (go_at_call 10; refine (HLV.out _).mono ?_; rintro e w1 ⟨rfl, hb⟩)
    go_ret
    exact ⟨rfl, hb⟩
  have d1 : ((xs.length : Int) > 300) = False := by simp; omega
  have d2 : (300 < xs.length) = False := by simp; omega
  have HX := hide hx
  have HK := hide hk
  have HN := hide (Nat.le_of_not_lt h300)
  have HR := hide hr
  have hku : IntKind.u64.wrap (key : Int) = key := by rw [IntKind.wrap_u64]; omega
  clear hx hk hr h300
  obtain ⟨W0, hW0⟩ : ∃ W0, W0 = ((w.alloc (.cells #[.int .u8 1] 54)).alloc (.cells #[.int .i64 16] 3)).alloc (.cells #[.slice (some ⟨w.heap.size, 0, none⟩) 1 1, .slice (some ⟨w.heap.size + 1, 0, none⟩) 1 1, .int .i64 4096] 25) := ⟨_, rfl⟩
  have HW0 := hide hW0
  have BW0 : Hid (Below w.heap.size w W0) := by rw [hW0]; exact below3 _ _ _ _
  have HT0 : Hid (TbR W0 ⟨t16, some ⟨w.heap.size, 0, none⟩, 1, some ⟨w.heap.size + 1, 0, none⟩, 1⟩) := by
    rw [hW0]; exact tbR_new (k := 1) (n := 16) (heap_past _ (heap_past _ (heap_alloc_new _ _))) (heap_past _ (heap_snd _ _ _ _)) ⟨by decide, by decide⟩
  have HB0 : Hid (W0.heap[w.heap.size + 1 + 1]? = some (.cells #[.slice (some ⟨w.heap.size, 0, none⟩) 1 1, .slice (some ⟨w.heap.size + 1, 0, none⟩) 1 1, .int .i64 4096] 25 (0, 0))) := by
    rw [hW0]; exact heap_trd _ _ _ _ _
  clear hW0
  go_enter Try.func7, Try.ntmps7
  go_wp2
  rw [← HW0.out]
  go_loopw [6, 7, 8] (fun v t i wr => ∃ (k : Nat) (va : Option Addr) (vc : Nat) (acc : List EnL), k ≤ xs.length ∧ i = .int .i64 k ∧ v = .slice va (dedT xs k).length vc ∧ t = .int .i64 (firstI (fun u => u == key) (dedT xs k)) ∧ Ac wr va acc ((dedT xs k).map ex16) ∧ Below W0.heap.size W0 wr) (fun _ _ i _ => xs.length - (intOf i).toNat)
  case atStart => exact ⟨0, none, 0, [], by omega, rfl, rfl, rfl, ⟨rfl, rfl, rdE_nil _⟩, Below.refl _ _⟩
  case round =>
    obtain ⟨k, va, vc, acc, hk, rfl, rfl, rfl, hac, hbr⟩ := hrel
    have HA := hide hac
    have HB := hide hbr
    clear hac hbr
    have HTW := hide (heap_below HB.out HB0.out)
    by_cases hlt : k < xs.length
    · have hlI : (k : Int) < (xs.length : Int) := by omega
      have hkb : k < 300 := by have := HN.out; omega
      have hBw : Below w.heap.size w wr := bstep BW0.out HB.out
      obtain ⟨p, off, rfl, hp, hcl⟩ := (HR.out.below BW0.out).some (by omega)
      have HCL : Hid (∀ W, Below W0.heap.size W0 W → ∀ i (h : i < xs.length), W.cell? ⟨p, off + i, none⟩ = some (.int .u16 (xs[i] : Nat))) := fun W hb i hi => (hb.cell (p := ⟨p, off + i, none⟩) hp).trans (hcl i hi)
      have hx := HX.out _ (List.getElem_mem hlt)
      have HXK := hide hx
      have q0 := HCL.out wr HB.out k hlt
      have HS := hide (dedT_succ xs k hlt)
      have HY := hide (dedT_any xs k hlt)
      have HL3 : Hid ((dedT xs k).length ≤ 300) := by have h1 := dedT_len xs k (by omega); show _ ≤ _; omega
      have HI := hide (ins16 (V := dedT xs k) hx HL3.out)
      have HTK : Hid (∀ j (hj : j < xs.length), (xs.take (j + 1)).any (fun u => u == xs[k]) = ((xs.take j).any (fun u => u == xs[k]) || xs[j] == xs[k])) := fun j hj => any_take_succ xs xs[k] j hj
      have HFS := hide (fun (h : (dedT xs k).any (fun u => u == xs[k]) = false) => firstI_snoc (V := dedT xs k) (x := xs[k]) (key := key) h)
      clear hcl hp hBw
      obtain ⟨x, hxe⟩ : ∃ x, x = xs[k] := ⟨_, rfl⟩
      rw [← hxe] at q0 hx HXK HS HY HI HTK HFS
      have HXE := hide hxe
      have hxu : IntKind.u64.wrap (x : Int) = x := by rw [IntKind.wrap_u64]; omega
      clear hxe hx
      have T2 := hide (heap_past (.cells #[.slice (some ⟨wr.heap.size, 0, none⟩) 1 1, .int .i64 0, .string ⟨#[97]⟩, .slice none 0 0] 30) (heap_past (.cells #[.int .i64 16, .int .u64 0, .int .u64 x, .int .i64 0, .int .u64 0, .int .u64 0, .int .i64 0] 49) HTW.out))
      obtain ⟨c0, c1, c2, -⟩ := at3 T2.out
      have B2 : Hid (Below W0.heap.size W0 ((wr.alloc (.cells #[.int .i64 16, .int .u64 0, .int .u64 x, .int .i64 0, .int .u64 0, .int .u64 0, .int .i64 0] 49)).alloc (.cells #[.slice (some ⟨wr.heap.size, 0, none⟩) 1 1, .int .i64 0, .string ⟨#[97]⟩, .slice none 0 0] 30))) := bstep HB.out (below2 _ _ _)
      have HE2 : Hid (EnR ((wr.alloc (.cells #[.int .i64 16, .int .u64 0, .int .u64 x, .int .i64 0, .int .u64 0, .int .u64 0, .int .i64 0] 49)).alloc (.cells #[.slice (some ⟨wr.heap.size, 0, none⟩) 1 1, .int .i64 0, .string ⟨#[97]⟩, .slice none 0 0] 30)) ⟨⟨[mx16 x], 0, ⟨#[97]⟩, []⟩, some ⟨wr.heap.size, 0, none⟩, 1, none, 0⟩) := enR_new (x := mx16 x) (heap_past _ (heap_alloc_new _ _)) (mx16_r HXK.out) _
      have A2 := hide (HA.out.below (below2 wr (.cells #[.int .i64 16, .int .u64 0, .int .u64 x, .int .i64 0, .int .u64 0, .int .u64 0, .int .i64 0] 49) (.cells #[.slice (some ⟨wr.heap.size, 0, none⟩) 1 1, .int .i64 0, .string ⟨#[97]⟩, .slice none 0 0] 30)))
      cases hs : (dedT xs k).any (fun u => u == x)
      · have HFS2 := hide (HFS.out hs)
        rw [hs] at HI HS HY
        have HIN := hide (ins_ac (t := t16) (cap := vc) (0) A2.out (HT0.out.below B2.out) HE2.out (by rw [List.length_map]; have := HL3.out; omega) HI.out (L' := (dedT xs k ++ [x]).map ex16) (by simp [ex16]))
        rw [List.length_map, List.length_map, List.length_append, List.length_singleton] at HIN
        clear hs HFS HI
        go_wp2_with fail
        refine HIN.out.mono ?_
        rintro e w5 ⟨a5, cap5, acc5, rfl, ha5, -, hb⟩
        have B5 := hide (bstep B2.out hb)
        have A5 := hide ha5
        clear hb ha5
        go_wp2
        go_loopw [12, 13] (fun s i wi => ∃ j : Nat, j ≤ k ∧ i = .int .i64 j ∧ s = .bool ((xs.take j).any (fun u => u == x)) ∧ Below w5.heap.size w5 wi) (fun _ i _ => k - (intOf i).toNat)
        case atStart => exact ⟨0, by omega, rfl, by simp, Below.refl _ _⟩
        case round =>
          obtain ⟨j, hj, rfl, rfl, hbj⟩ := hrel
          have BJ := hide hbj
          clear hbj
          by_cases hjt : j < k
          · have hjx : j < xs.length := by omega
            have hjI : (j : Int) < (k : Int) := by omega
            have hjl : (j : Int) < (xs.length : Int) := by omega
            have g0 := HCL.out wr (bstep B5.out BJ.out) j hjx
            have g1 := HCL.out wr (bstep B5.out BJ.out) k hlt
            rw [← HXE.out] at g1
            have HTJ := hide (HTK.out j hjx)
            generalize (xs.take j).any (fun u => u == x) = sn at *
            generalize xs[j] = y at *
            cases sn
            · by_cases hyx : y = x
              · subst hyx
                go_wp2
                go_quiet (fail)
                go_wp2
                go_roundw
                case rel => exact ⟨j + 1, by omega, by go_num, by rw [HTJ.out]; simp, below_drewN BJ.out _⟩
                case measure => simp [intOf]; omega
              · have f1 : ((y : Int) == (x : Int)) = false := by simp; omega
                have f2 : ((y : Int) = (x : Int)) = False := by simp; omega
                have f3 : (y == x) = false := by simp [hyx]
                go_wp2
                go_quiet (fail)
                go_wp2
                go_roundw
                case rel => exact ⟨j + 1, by omega, by go_num, by rw [HTJ.out, f3]; simp, below_drewN BJ.out _⟩
                case measure => simp [intOf]; omega
            · go_wp2
              go_quiet (fail)
              go_wp2
              go_roundw
              case rel => exact ⟨j + 1, by omega, by go_num, by rw [HTJ.out]; simp, below_drewN BJ.out _⟩
              case measure => simp [intOf]; omega
          · obtain rfl : j = k := by omega
            rw [← HY.out]
            have HBR := hide (bstep B5.out BJ.out)
            have HAR := hide (A5.out.below BJ.out)
            have g1 := HCL.out wr (bstep B5.out BJ.out) j hlt
            rw [← HXE.out] at g1
            have HS2 : Hid (dedT xs (j + 1) = dedT xs j ++ [x]) := by have := HS.out; show _ = _; simpa using this
            by_cases hxk : x = key
            · subst hxk
              go_wp2
              go_roundw
              case rel => exact ⟨j + 1, a5, cap5, acc5, by omega, by go_num, by rw [HS2.out]; simp, by rw [HS2.out, HFS2.out]; simp, by rw [HS2.out]; exact HAR.out, HBR.out⟩
              case measure => simp [intOf]; omega
            · have f1 : ((x : Int) == (key : Int)) = false := by simp; omega
              have f2 : ((x : Int) = (key : Int)) = False := by simp; omega
              go_wp2
              go_roundw
              case rel => exact ⟨j + 1, a5, cap5, acc5, by omega, by go_num, by rw [HS2.out]; simp, by rw [HS2.out, HFS2.out, if_neg hxk], by rw [HS2.out]; exact HAR.out, HBR.out⟩
              case measure => simp [intOf]; omega
      · rw [hs] at HI HS HY
        have HIN := hide (ins_ac (t := t16) (cap := vc) (12) A2.out (HT0.out.below B2.out) HE2.out (by rw [List.length_map]; have := HL3.out; omega) HI.out (L' := []) rfl)
        rw [List.length_map, List.length_nil] at HIN
        clear hs HFS HI
        go_wp2_with fail
        refine HIN.out.mono ?_
        rintro e w5 ⟨a5, cap5, acc5, rfl, -, -, hb⟩
        have B5 := hide (bstep B2.out hb)
        have A5 := hide (A2.out.below hb)
        clear hb
        go_wp2
        go_loopw [12, 13] (fun s i wi => ∃ j : Nat, j ≤ k ∧ i = .int .i64 j ∧ s = .bool ((xs.take j).any (fun u => u == x)) ∧ Below w5.heap.size w5 wi) (fun _ i _ => k - (intOf i).toNat)
        case atStart => exact ⟨0, by omega, rfl, by simp, Below.refl _ _⟩
        case round =>
          obtain ⟨j, hj, rfl, rfl, hbj⟩ := hrel
          have BJ := hide hbj
          clear hbj
          by_cases hjt : j < k
          · have hjx : j < xs.length := by omega
            have hjI : (j : Int) < (k : Int) := by omega
            have hjl : (j : Int) < (xs.length : Int) := by omega
            have g0 := HCL.out wr (bstep B5.out BJ.out) j hjx
            have g1 := HCL.out wr (bstep B5.out BJ.out) k hlt
            rw [← HXE.out] at g1
            have HTJ := hide (HTK.out j hjx)
            generalize (xs.take j).any (fun u => u == x) = sn at *
            generalize xs[j] = y at *
            cases sn
            · by_cases hyx : y = x
              · subst hyx
                go_wp2
                go_quiet (fail)
                go_wp2
                go_roundw
                case rel => exact ⟨j + 1, by omega, by go_num, by rw [HTJ.out]; simp, below_drewN BJ.out _⟩
                case measure => simp [intOf]; omega
              · have f1 : ((y : Int) == (x : Int)) = false := by simp; omega
                have f2 : ((y : Int) = (x : Int)) = False := by simp; omega
                have f3 : (y == x) = false := by simp [hyx]
                go_wp2
                go_quiet (fail)
                go_wp2
                go_roundw
                case rel => exact ⟨j + 1, by omega, by go_num, by rw [HTJ.out, f3]; simp, below_drewN BJ.out _⟩
                case measure => simp [intOf]; omega
            · go_wp2
              go_quiet (fail)
              go_wp2
              go_roundw
              case rel => exact ⟨j + 1, by omega, by go_num, by rw [HTJ.out]; simp, below_drewN BJ.out _⟩
              case measure => simp [intOf]; omega
          · obtain rfl : j = k := by omega
            rw [← HY.out]
            have HBR := hide (bstep B5.out BJ.out)
            have HAR := hide (A5.out.below BJ.out)
            go_wp2
            go_roundw
            case rel => exact ⟨j + 1, va, vc, acc, by omega, by go_num, by rw [HS.out]; simp, by rw [HS.out]; simp, by rw [HS.out]; simpa using HAR.out, HBR.out⟩
            case measure => simp [intOf]; omega
    · obtain rfl : k = xs.length := by omega
      have hku := hku
      have HTO := hide (heap_past (.cells #[.int .i64 16, .int .u64 0, .int .u64 key] 47) HTW.out)
      obtain ⟨c0, c1, c2, -⟩ := at3 HTO.out
      obtain ⟨e0, e1, e2, -⟩ := at3 HTW.out
      have HV : Hid (∀ v ∈ dedT xs xs.length, v < 65536) := fun v hv => HX.out v (by have := (dedT_mem xs xs.length v).1 hv; rw [List.take_length] at this; exact this)
      have HF := hide (find16 HK.out HV.out)
      have HL3 : Hid ((dedT xs xs.length).length ≤ 300) := by have h1 := dedT_len xs xs.length (Nat.le_refl _); have := HN.out; show _ ≤ _; omega
      have HNR := hide (nb16 HK.out)
      have HFI := hide (find_ac (t := t16) (cap := vc) (x := ⟨16, 0, key⟩) _ (HA.out.below (below1 wr (.cells #[.int .i64 16, .int .u64 0, .int .u64 key] 47))) (HT0.out.below (bstep HB.out (below1 wr (.cells #[.int .i64 16, .int .u64 0, .int .u64 key] 47)))) (rdN_one (x := ⟨16, 0, key⟩) (heap_alloc_new wr (.cells #[.int .i64 16, .int .u64 0, .int .u64 key] 47))) HNR.out (by rw [List.length_map]; have := HL3.out; omega) HF.out)
      rw [List.length_map] at HFI
      generalize firstI (fun u => u == key) (dedT xs xs.length) = r at *
      clear HF HV HL3 HNR
      go_wp2_with fail
      refine HFI.out.mono ?_
      rintro e w6 ⟨rfl, hb⟩
      have B6 := hide (bstep (bstep (bstep BW0.out HB.out) (below1 _ _)) hb)
      clear hb
      have rr : (r == r) = true := by simp
      go_wp2_with fail
      refine (HLV.out _).mono ?_
      rintro e w7 ⟨rfl, hb⟩
      go_wp2
      go_ret
      exact ⟨rfl, bstep B6.out hb⟩
end Go.Proofs.Ytoonlpdohhconaa
