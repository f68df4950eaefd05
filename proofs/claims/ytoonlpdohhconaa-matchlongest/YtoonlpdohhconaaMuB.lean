/- MatchLongest, walked for every list of prefixes. -/
import Derived.Test.YtoonlpdohhconaaMuA
import Derived.Test.YtoonlpdohhconaaMtZ
namespace Go.Proofs.Ytoonlpdohhconaa
open Go.RowKit

/- Pairs of bytes that can be read. -/
def Rd8 (W : World) (a : Option Addr) (ps : List (Nat × Nat)) : Prop :=
  ps = [] ∨ ∃ p off, a = some ⟨p, off, none⟩ ∧ p < W.heap.size ∧ ∀ i (h : i < ps.length), W.cell? ⟨p, off + i * 2, none⟩ = some (.int .u8 (ps[i].1 : Nat)) ∧ W.cell? ⟨p, off + i * 2 + 1, none⟩ = some (.int .u8 (ps[i].2 : Nat))
theorem Rd8.some {W : World} {a : Option Addr} {ps : List (Nat × Nat)} (h : Rd8 W a ps) (hx : 0 < ps.length) : ∃ p off, a = some ⟨p, off, none⟩ ∧ p < W.heap.size ∧ ∀ i (h : i < ps.length), W.cell? ⟨p, off + i * 2, none⟩ = some (.int .u8 (ps[i].1 : Nat)) ∧ W.cell? ⟨p, off + i * 2 + 1, none⟩ = some (.int .u8 (ps[i].2 : Nat)) := by
  rcases h with rfl | h
  · simp at hx
  · exact h
set_option maxRecDepth 100000 in
set_option maxHeartbeats 8000000 in
theorem matchLongest_any (a : Option Addr) (cap : Nat) (ps : List (Nat × Nat)) (key : Nat) (w : World) (hr : Rd8 w a ps) (hx : ∀ p ∈ ps, p.1 < 256 ∧ p.2 < 256) (hk : key < 256) :
    Calls Try.prog 8 #[.slice a ps.length cap, .int .u8 (key : Nat)] w fun e w' => e = .returned (.bool true) ∧ Below w.heap.size w w' := by
  have HLV : Hid (Pure _ _ _) := lives_any
  by_cases h300 : 300 < ps.length
  · have d1 : ((ps.length : Int) > 300) = True := by simp; omega
    have d2 : (300 < ps.length) = True := by simp; omega
    clear hr hx hk h300
    go_enter Try.func8, Try.ntmps8
    go_wp2_with (go_at_call 10; refine (HLV.out _).mono ?_; rintro e w1 ⟨rfl, hb⟩)
    go_ret
    exact ⟨rfl, hb⟩
  have d1 : ((ps.length : Int) > 300) = False := by simp; omega
  have d2 : (300 < ps.length) = False := by simp; omega
  have HX := hide hx
  have HK := hide hk
  have HN := hide (Nat.le_of_not_lt h300)
  have HR := hide hr
  have hku : IntKind.u64.wrap (key : Int) = key := by rw [IntKind.wrap_u64]; omega
  have hki : IntKind.i64.wrap (key : Int) = key := by rw [IntKind.wrap_i64]; omega
  clear hx hr h300
  obtain ⟨W0, hW0⟩ : ∃ W0, W0 = ((w.alloc (.cells #[.int .u8 2] 54)).alloc (.cells #[.int .i64 8] 3)).alloc (.cells #[.slice (some ⟨w.heap.size, 0, none⟩) 1 1, .slice (some ⟨w.heap.size + 1, 0, none⟩) 1 1, .int .i64 4096] 25) := ⟨_, rfl⟩
  have HW0 := hide hW0
  have BW0 : Hid (Below w.heap.size w W0) := by rw [hW0]; exact below3 _ _ _ _
  have HT0 : Hid (TbR W0 ⟨t8, some ⟨w.heap.size, 0, none⟩, 1, some ⟨w.heap.size + 1, 0, none⟩, 1⟩) := by
    rw [hW0]; exact tbR_new (k := 2) (n := 8) (heap_past _ (heap_past _ (heap_alloc_new _ _))) (heap_past _ (heap_snd _ _ _ _)) ⟨by decide, by decide⟩
  have HB0 : Hid (W0.heap[w.heap.size + 1 + 1]? = some (.cells #[.slice (some ⟨w.heap.size, 0, none⟩) 1 1, .slice (some ⟨w.heap.size + 1, 0, none⟩) 1 1, .int .i64 4096] 25 (0, 0))) := by
    rw [hW0]; exact heap_trd _ _ _ _ _
  clear hW0
  go_enter Try.func8, Try.ntmps8
  go_wp2
  rw [← HW0.out]
  go_loopw [6, 7, 8] (fun v t i wr => ∃ (k : Nat) (va : Option Addr) (vc : Nat) (acc : List EnL) (V : List (Nat × Nat)), k ≤ ps.length ∧ V.length ≤ k ∧ Good8 V ∧ i = .int .i64 k ∧ v = .slice va V.length vc ∧ t = .int .i64 (lbI key V (-1)) ∧ Ac wr va acc (V.map pe) ∧ Below W0.heap.size W0 wr) (fun _ _ i _ => ps.length - (intOf i).toNat)
  case atStart => exact ⟨0, none, 0, [], [], by omega, Nat.le_refl _, fun p h => absurd h (by simp), rfl, rfl, rfl, ⟨rfl, rfl, rdE_nil _⟩, Below.refl _ _⟩
  case round =>
    obtain ⟨k, va, vc, acc, V, hkl, hVk, hgood, rfl, rfl, rfl, hac, hbr⟩ := hrel
    have HA := hide hac
    have HB := hide hbr
    have HG := hide hgood
    have HTW := hide (heap_below HB.out HB0.out)
    clear hac hbr hgood
    by_cases hlt : k < ps.length
    · have hlI : (k : Int) < (ps.length : Int) := by omega
      have hkb : k < 300 := by have := HN.out; omega
      obtain ⟨p, off, rfl, hp, hcl⟩ := HR.out.some (by omega)
      obtain ⟨hc0, hc1⟩ := hcl k hlt
      have q0 : wr.cell? ⟨p, off + k * 2, none⟩ = some (.int .u8 (ps[k].1 : Nat)) := ((bstep BW0.out HB.out).cell (p := ⟨p, off + k * 2, none⟩) hp).trans hc0
      have q1 : wr.cell? ⟨p, off + k * 2 + 1, none⟩ = some (.int .u8 (ps[k].2 : Nat)) := ((bstep BW0.out HB.out).cell (p := ⟨p, off + k * 2 + 1, none⟩) hp).trans hc1
      have hx := HX.out _ (List.getElem_mem hlt)
      clear hcl hp hc0 hc1
      generalize ps[k].1 = x at *
      generalize ps[k].2 = y at *
      obtain ⟨n, hyn⟩ : ∃ n, y % 9 = n := ⟨_, rfl⟩
      have hn8 : n ≤ 8 := by omega
      have hyI : ((y : Int) % 9) = (n : Int) := by omega
      have hxv : wrap64 ((x : Int) / 2 ^ (8 - n) * 2 ^ (8 - n)) = ((trn x n : Nat) : Int) := by
        have h1 := trn_le x n
        have h2 : ((x : Int) / 2 ^ (8 - n) * 2 ^ (8 - n)) = ((trn x n : Nat) : Int) := by simp [trn]
        rw [h2]
        unfold wrap64; omega
      have hkv : wrap64 ((key : Int) / 2 ^ (8 - n) * 2 ^ (8 - n)) = ((trn key n : Nat) : Int) := by
        have h1 := trn_le key n
        have h2 : ((key : Int) / 2 ^ (8 - n) * 2 ^ (8 - n)) = ((trn key n : Nat) : Int) := by simp [trn]
        rw [h2]
        unfold wrap64; omega
      have hxw : wrap64 (x : Int) = x := by unfold wrap64; omega
      have hkw : wrap64 (key : Int) = key := by unfold wrap64; omega
      have hvl : trn x n < 256 := Nat.lt_of_le_of_lt (trn_le x n) hx.1
      have hvu : IntKind.u64.wrap ((trn x n : Nat) : Int) = ((trn x n : Nat) : Int) := by rw [IntKind.wrap_u64]; omega
      have HXX := hide hx
      have HN8 := hide hn8
      have HL1 : Hid (∀ W, _) := fun W => lawFirst_any ((trn x n : Nat) : Int) (n : Int) (u64c (by omega) (by omega)) ⟨by omega, by omega⟩ W
      have HI := hide (ins8 (V := V) hx.1 hn8 (by omega))
      have HVK := hide hVk
      clear hx hn8 hvl
      obtain ⟨c0, c1, c2, -⟩ := at3 HTW.out
      have HBB : Hid (Below wr.heap.size wr wr.drew) := (Below.refl _ _).drew
      rcases HI.out with hi | hi
      · have HIN : Hid (∀ (W : World) (fb : Nat), Below wr.heap.size wr W → EnR W ⟨⟨[pfx ((trn x n : Nat) : Int) (n : Int)], 0, ⟨#[]⟩, []⟩, some ⟨fb, 0, none⟩, 1, none, 0⟩ → Calls Try.prog 16 #[.agg #[.slice (some ⟨w.heap.size, 0, none⟩) 1 1, .slice (some ⟨w.heap.size + 1, 0, none⟩) 1 1, .int .i64 4096], .slice va V.length vc, .agg #[.slice (some ⟨fb, 0, none⟩) 1 1, .int .i64 0, .string ⟨#[]⟩, .slice none 0 0]] W fun e w' => ∃ a' cap' acc', e = .returned (.tuple #[.slice a' 0 cap', .int .i64 12]) ∧ Ac w' a' acc' [] ∧ (a' = none → cap' = 0) ∧ Below W.heap.size W w') := fun W fb hb hf => by
          have h := ins_ac (t := t8) (cap := vc) (12) (HA.out.below hb) (HT0.out.below (bstep HB.out hb)) hf (by rw [List.length_map]; have := HVK.out; omega) hi (L' := []) rfl
          rw [List.length_map] at h
          exact h
        clear hi HI
        go_wp2
        go_region_held3 (fun w' => w'.cell? ⟨w.heap.size + 1 + 1, 0, none⟩ = some (.slice (some ⟨w.heap.size, 0, none⟩) 1 1) ∧ w'.cell? ⟨w.heap.size + 1 + 1, 1, none⟩ = some (.slice (some ⟨w.heap.size + 1, 0, none⟩) 1 1) ∧ w'.cell? ⟨w.heap.size + 1 + 1, 2, none⟩ = some (.int .i64 4096) ∧ Below wr.heap.size wr w') (first | exact hold3 (by assumption) (by assumption) (by omega) | (exact ⟨c0, c1, c2, HBB.out⟩))
          (first
            | (go_at_call 21; refine (HL1.out _).mono ?_; rintro e w1 ⟨fb, rfl, hf, hb⟩)
            | (go_at_call 16; refine (HIN.out w1 fb (by assumption : w1.cell? ⟨w.heap.size + 1 + 1, 0, none⟩ = some _ ∧ _ ∧ _ ∧ Below wr.heap.size wr w1).2.2.2 hf).mono ?_; rintro e w2 ⟨a5, cap5, acc5, rfl, ha5, -, hb⟩))
        have HS2 := hide (by assumption : w2.cell? ⟨w.heap.size + 1 + 1, 0, none⟩ = some _ ∧ _ ∧ _ ∧ Below wr.heap.size wr w2).2.2.2
        clear ha5
        go_wp2
        go_roundw
        case rel => exact ⟨k + 1, va, vc, acc, V, by omega, by omega, HG.out, by go_num, rfl, rfl, HA.out.below HS2.out, bstep HB.out HS2.out⟩
        case measure => simp [intOf]; omega
      · have HIN : Hid (∀ (W : World) (fb : Nat), Below wr.heap.size wr W → EnR W ⟨⟨[pfx ((trn x n : Nat) : Int) (n : Int)], 0, ⟨#[]⟩, []⟩, some ⟨fb, 0, none⟩, 1, none, 0⟩ → Calls Try.prog 16 #[.agg #[.slice (some ⟨w.heap.size, 0, none⟩) 1 1, .slice (some ⟨w.heap.size + 1, 0, none⟩) 1 1, .int .i64 4096], .slice va V.length vc, .agg #[.slice (some ⟨fb, 0, none⟩) 1 1, .int .i64 0, .string ⟨#[]⟩, .slice none 0 0]] W fun e w' => ∃ a' cap' acc', e = .returned (.tuple #[.slice a' (V.length + 1) cap', .int .i64 0]) ∧ Ac w' a' acc' ((V ++ [(trn x n, n)]).map pe) ∧ (a' = none → cap' = 0) ∧ Below W.heap.size W w') := fun W fb hb hf => by
          have h := ins_ac (t := t8) (cap := vc) (0) (HA.out.below hb) (HT0.out.below (bstep HB.out hb)) hf (by rw [List.length_map]; have := HVK.out; omega) hi (L' := (V ++ [(trn x n, n)]).map pe) (by simp [pe, en1])
          rw [List.length_map, List.length_map, List.length_append, List.length_singleton] at h
          exact h
        clear hi HI
        go_wp2
        go_region_held3 (fun w' => w'.cell? ⟨w.heap.size + 1 + 1, 0, none⟩ = some (.slice (some ⟨w.heap.size, 0, none⟩) 1 1) ∧ w'.cell? ⟨w.heap.size + 1 + 1, 1, none⟩ = some (.slice (some ⟨w.heap.size + 1, 0, none⟩) 1 1) ∧ w'.cell? ⟨w.heap.size + 1 + 1, 2, none⟩ = some (.int .i64 4096) ∧ Below wr.heap.size wr w') (first | exact hold3 (by assumption) (by assumption) (by omega) | (exact ⟨c0, c1, c2, HBB.out⟩))
          (first
            | (go_at_call 21; refine (HL1.out _).mono ?_; rintro e w1 ⟨fb, rfl, hf, hb⟩)
            | (go_at_call 16; refine (HIN.out w1 fb (by assumption : w1.cell? ⟨w.heap.size + 1 + 1, 0, none⟩ = some _ ∧ _ ∧ _ ∧ Below wr.heap.size wr w1).2.2.2 hf).mono ?_; rintro e w2 ⟨a5, cap5, acc5, rfl, ha5, -, hb⟩))
        have HS2 := hide (by assumption : w2.cell? ⟨w.heap.size + 1 + 1, 0, none⟩ = some _ ∧ _ ∧ _ ∧ Below wr.heap.size wr w2).2.2.2
        have HA5 := hide ha5
        have HGS : Hid (Good8 (V ++ [(trn x n, n)])) := fun q hq => by
          rcases List.mem_append.1 hq with hq | hq
          · exact HG.out q hq
          · have : q = (trn x n, n) := by simpa using hq
            subst this
            exact ⟨HN8.out, x, HXX.out.1, rfl⟩
        have HLS := hide (lb_snoc key (trn x n, n) V (-1))
        clear ha5
        generalize lbI key V (-1) = lb at *
        by_cases hh : trn key n = trn x n ∧ lb < (n : Int)
        · have f1 : (((trn key n : Nat) : Int) == ((trn x n : Nat) : Int)) = true := by rw [hh.1]; simp
          have f2 : (((trn key n : Nat) : Int) = ((trn x n : Nat) : Int)) = True := by rw [hh.1]; simp
          have f3 : ((n : Int) > lb) = True := by simp; omega
          have f4 : (lb < (n : Int)) = True := by simp; omega
          have HL9 : Hid (lbI key (V ++ [(trn x n, n)]) (-1) = n) := by show _ = _; rw [HLS.out, if_pos hh]
          clear hh HLS
          go_wp2
          go_roundw
          case rel => exact ⟨k + 1, a5, cap5, acc5, V ++ [(trn x n, n)], by omega, by simp; omega, HGS.out, by go_num, by simp, by rw [HL9.out], HA5.out, bstep HB.out HS2.out⟩
          case measure => simp [intOf]; omega
        · have HL9 : Hid (lbI key (V ++ [(trn x n, n)]) (-1) = lb) := by show _ = _; rw [HLS.out, if_neg hh]
          by_cases h1 : trn key n = trn x n
          · have f1 : (((trn key n : Nat) : Int) == ((trn x n : Nat) : Int)) = true := by rw [h1]; simp
            have f2 : (((trn key n : Nat) : Int) = ((trn x n : Nat) : Int)) = True := by rw [h1]; simp
            have h2 : ¬ lb < (n : Int) := fun h => hh ⟨h1, h⟩
            have f3 : ((n : Int) > lb) = False := by simp; omega
            have f4 : (lb < (n : Int)) = False := by simp; omega
            clear hh HLS h1 h2
            go_wp2
            go_roundw
            case rel => exact ⟨k + 1, a5, cap5, acc5, V ++ [(trn x n, n)], by omega, by simp; omega, HGS.out, by go_num, by simp, by rw [HL9.out], HA5.out, bstep HB.out HS2.out⟩
            case measure => simp [intOf]; omega
          · have f1 : (((trn key n : Nat) : Int) == ((trn x n : Nat) : Int)) = false := by simp; omega
            have f2 : (((trn key n : Nat) : Int) = ((trn x n : Nat) : Int)) = False := by simp; omega
            clear hh HLS
            go_wp2
            go_roundw
            case rel => exact ⟨k + 1, a5, cap5, acc5, V ++ [(trn x n, n)], by omega, by simp; omega, HGS.out, by go_num, by simp, by rw [HL9.out], HA5.out, bstep HB.out HS2.out⟩
            case measure => simp [intOf]; omega
    · obtain rfl : k = ps.length := by omega
      obtain ⟨c0, c1, c2, -⟩ := at3 HTW.out
      have HBB : Hid (Below wr.heap.size wr wr.drew) := (Below.refl _ _).drew
      have HE8 : Hid (Pure _ _ _) := eight_any (key : Int)
      have hV3 : V.length ≤ 300 := by have := HN.out; omega
      rcases find8 hk HG.out with ⟨hf, hlb⟩ | ⟨j, hj, hf, hlb⟩
      · have HFD : Hid (∀ W : World, Below wr.heap.size wr W → Calls Try.prog 20 #[.agg #[.slice (some ⟨w.heap.size, 0, none⟩) 1 1, .slice (some ⟨w.heap.size + 1, 0, none⟩) 1 1, .int .i64 4096], .slice va V.length vc, .slice (some ⟨W.heap.size, 0, none⟩) 1 1] (W.alloc (.cells #[.int .i64 8, .int .u64 0, .int .u64 key] 47)) fun e w' => e = .returned (.int .i64 (-1)) ∧ Below (W.alloc (.cells #[.int .i64 8, .int .u64 0, .int .u64 key] 47)).heap.size (W.alloc (.cells #[.int .i64 8, .int .u64 0, .int .u64 key] 47)) w') := fun W hb => by
          have h := find_ac (t := t8) (cap := vc) (x := ⟨8, 0, key⟩) _ (HA.out.below (bstep hb (below1 W (.cells #[.int .i64 8, .int .u64 0, .int .u64 key] 47)))) (HT0.out.below (bstep (bstep HB.out hb) (below1 W (.cells #[.int .i64 8, .int .u64 0, .int .u64 key] 47)))) (rdN_one (x := ⟨8, 0, key⟩) (heap_alloc_new W (.cells #[.int .i64 8, .int .u64 0, .int .u64 key] 47))) (nbR8 (u64c (by omega) (by omega))) (by rw [List.length_map]; omega) hf
          rw [List.length_map] at h
          exact h
        clear hf
        rw [hlb]
        clear hlb
        go_wp2
        go_region_held3 (fun w' => w'.cell? ⟨w.heap.size + 1 + 1, 0, none⟩ = some (.slice (some ⟨w.heap.size, 0, none⟩) 1 1) ∧ w'.cell? ⟨w.heap.size + 1 + 1, 1, none⟩ = some (.slice (some ⟨w.heap.size + 1, 0, none⟩) 1 1) ∧ w'.cell? ⟨w.heap.size + 1 + 1, 2, none⟩ = some (.int .i64 4096) ∧ Below wr.heap.size wr w') (first | exact hold3 (by assumption) (by assumption) (by omega) | exact hold3 (below1 _ _) (by assumption) (by omega) | (exact ⟨c0, c1, c2, HBB.out⟩))
          (first
            | (go_at_call 22; refine (HE8.out _).mono ?_; rintro e w1 ⟨rfl, hb⟩)
            | (go_at_call 20; refine (HFD.out w1 (bstep HBB.out hb)).mono ?_; rintro e w2 ⟨rfl, hb⟩))
        have HS2 := hide (by assumption : w2.cell? ⟨w.heap.size + 1 + 1, 0, none⟩ = some _ ∧ _ ∧ _ ∧ Below wr.heap.size wr w2).2.2.2
        go_wp2_with fail
        refine (HLV.out _).mono ?_
        rintro e w3 ⟨rfl, hb3⟩
        go_wp2
        go_ret
        exact ⟨rfl, bstep (bstep (bstep BW0.out HB.out) HS2.out) hb3⟩
      · have HFD : Hid (∀ W : World, Below wr.heap.size wr W → Calls Try.prog 20 #[.agg #[.slice (some ⟨w.heap.size, 0, none⟩) 1 1, .slice (some ⟨w.heap.size + 1, 0, none⟩) 1 1, .int .i64 4096], .slice va V.length vc, .slice (some ⟨W.heap.size, 0, none⟩) 1 1] (W.alloc (.cells #[.int .i64 8, .int .u64 0, .int .u64 key] 47)) fun e w' => e = .returned (.int .i64 ((j : Nat) : Int)) ∧ Below (W.alloc (.cells #[.int .i64 8, .int .u64 0, .int .u64 key] 47)).heap.size (W.alloc (.cells #[.int .i64 8, .int .u64 0, .int .u64 key] 47)) w') := fun W hb => by
          have h := find_ac (t := t8) (cap := vc) (x := ⟨8, 0, key⟩) _ (HA.out.below (bstep hb (below1 W (.cells #[.int .i64 8, .int .u64 0, .int .u64 key] 47)))) (HT0.out.below (bstep (bstep HB.out hb) (below1 W (.cells #[.int .i64 8, .int .u64 0, .int .u64 key] 47)))) (rdN_one (x := ⟨8, 0, key⟩) (heap_alloc_new W (.cells #[.int .i64 8, .int .u64 0, .int .u64 key] 47))) (nbR8 (u64c (by omega) (by omega))) (by rw [List.length_map]; omega) hf
          rw [List.length_map] at h
          exact h
        clear hf
        have hja : j < acc.length := by have := HA.out.n; rw [List.length_map] at this; omega
        have hje : acc[j].e = pe V[j] := by
          have h1 : (ens acc)[j]'(by rw [ens_len]; exact hja) = acc[j].e := by simp [ens]
          rw [← h1]
          have h2 := HA.out.e
          simp only [h2, List.getElem_map]
        have HRD : Hid (∀ W : World, Below wr.heap.size wr W → ∃ p off p' off', va = some ⟨p, off, none⟩ ∧ ∃ mc, W.cell? ⟨p, off + j * 4, none⟩ = some (.slice (some ⟨p', off', none⟩) 1 mc) ∧ W.cell? ⟨p', off' + 6, none⟩ = some (.int .i64 (V[j].2 : Nat))) := fun W hb => by
          have hE := (HA.out.below hb).r
          obtain ⟨p, off, h1, _, h2⟩ := hE.some (by omega)
          have h3 := (h2 j hja).1
          have h4 := (hE.ok _ (List.getElem_mem hja)).ms
          rw [hje] at h3 h4
          obtain ⟨p', off', h5, _, h6⟩ := h4.some (by simp [pe, en1])
          have h7 := (h6 0 (by simp [pe, en1])).2.2.2.2.2.2
          rw [h5] at h3
          exact ⟨p, off, p', off', h1, acc[j].mc, h3, h7⟩
        rw [hlb]
        have hjI : (j : Int) < (V.length : Int) := by omega
        clear hlb hje hja
        generalize V[j].2 = n at *
        go_wp2
        go_region_held3 (fun w' => w'.cell? ⟨w.heap.size + 1 + 1, 0, none⟩ = some (.slice (some ⟨w.heap.size, 0, none⟩) 1 1) ∧ w'.cell? ⟨w.heap.size + 1 + 1, 1, none⟩ = some (.slice (some ⟨w.heap.size + 1, 0, none⟩) 1 1) ∧ w'.cell? ⟨w.heap.size + 1 + 1, 2, none⟩ = some (.int .i64 4096) ∧ Below wr.heap.size wr w') (first | exact hold3 (by assumption) (by assumption) (by omega) | exact hold3 (below1 _ _) (by assumption) (by omega) | (exact ⟨c0, c1, c2, HBB.out⟩))
          (first
            | (go_at_call 22; refine (HE8.out _).mono ?_; rintro e w1 ⟨rfl, hb⟩)
            | (go_at_call 20; refine (HFD.out w1 (bstep HBB.out hb)).mono ?_; rintro e w2 ⟨rfl, hb⟩))
        have HS2 := hide (by assumption : w2.cell? ⟨w.heap.size + 1 + 1, 0, none⟩ = some _ ∧ _ ∧ _ ∧ Below wr.heap.size wr w2).2.2.2
        obtain ⟨p, off, p', off', rfl, mc, g0, g1⟩ := HRD.out w2 HS2.out
        have n0 : ((n : Int) == (n : Int)) = true := by simp
        clear HRD HFD
        go_wp2_with fail
        refine (HLV.out _).mono ?_
        rintro e w3 ⟨rfl, hb3⟩
        go_wp2
        go_ret
        exact ⟨rfl, bstep (bstep (bstep BW0.out HB.out) HS2.out) hb3⟩
end Go.Proofs.Ytoonlpdohhconaa
