/- CellsApart, walked. -/
import Derived.Test.YtngeclnlgoamkaaCeR
import Derived.RegionTactic
namespace Go.Proofs.Ytngeclnlgoamkaa
open Go.RowKit

set_option maxRecDepth 100000 in
set_option maxHeartbeats 8000000 in
theorem cellsApart_any (m : Nat) (hm : m < 256) (a : Option Addr) (cap : Nat) (xs : List Nat) (hxs : ∀ x ∈ xs, x < 256) (w : World) (hr : RdA w a xs) (hl : xs.length ≤ 140737488355328) :
    Calls Try.prog 6 #[.int .u8 m, .slice a xs.length cap] w fun e w' => e = .returned (.bool true) ∧ Below w.heap.size w w' := by
  have w1 : IntKind.i64.wrap (m : Int) = m := by rw [IntKind.wrap_i64]; omega
  obtain ⟨n, hn⟩ : ∃ n : Nat, n = 1 + m % 200 := ⟨_, rfl⟩
  have n0 : (m : Int) % 200 = ((m % 200 : Nat) : Int) := by omega
  have n1 : IntKind.i64.wrap (1 + (m : Int) % 200) = (n : Int) := by rw [IntKind.wrap_i64]; omega
  have n2 : 1 + (m : Int) % 200 = (n : Int) := by omega
  have hn1 : 1 ≤ n := by omega
  have hn2 : n ≤ 200 := by omega
  have HN : Hid (∀ (W : World) (p : Nat), W.heap[p]? = some (.cells (deC 4 ⟨#[99]⟩ n 0 0).toArray 53 (0, 0)) → _) := fun W p h => new_one (countD ⟨#[99]⟩ n) (countD_ok _ n hn1 (by omega)) (by rw [show (countD ⟨#[99]⟩ n).a = arK n [] 0 from (arK_zero n []).symm]; exact arK_may n [] 0 hn1 (by omega) (by simp)) p W h
  have HL : Hid (Pure _ _ _) := lives14_any
  have e1 : (countD ⟨#[99]⟩ n).a.cs.length = n := by simp [countD, counterA]
  have e2 : (countD ⟨#[99]⟩ n).a.ls.length = 0 := by simp [countD, counterA]
  rw [e1, e2] at HN
  simp only [show (countD ⟨#[99]⟩ n).a.name = ⟨#[99]⟩ from rfl, show (countD ⟨#[99]⟩ n).a.kind = 4 from rfl, show (countD ⟨#[99]⟩ n).a.w = 64 from rfl, show (countD ⟨#[99]⟩ n).a.rate = 0 from rfl, show (countD ⟨#[99]⟩ n).a.burst = 0 from rfl] at HN
  clear hn n0 e1 e2
  have HR := hide hr
  clear hr
  by_cases h500 : xs.length ≤ 500
  · have d1 : ((xs.length : Int) > 500) = False := by simp; omega
    have d2 : (500 < (xs.length : Int)) = False := by simp; omega
    go_enter Try.func6, Try.ntmps6
    go_wp2_with fail
    refine (HN.out _ _ (heap_alloc_new _ _)).mono ?_
    rintro e wa ⟨g, cap1, ca, la, rfl, q0, q1, q2, q3, q4, q5, q6, hA, hb⟩
    have BB := hide (bstep (below1 _ _) hb)
    have HA := hide (hA.mono (below1 w (.cells (deC 4 ⟨#[99]⟩ n 0 0).toArray 53)).size)
    clear hb hA
    go_wp2_with (refine wpList_allocZ rfl 58 rfl (List.replicate 256 (Value.int .u64 0)) zeroWant ?_; intro wz HZ HBz)
    have S0 : Hid (ApS w wz wa.heap.size (wa.heap.size + 1) n xs 0 ca la) := by
      have h1 := HZ.out
      rw [World.size_alloc] at h1
      have h2 := (HA.out.below (bstep (below1 wa _) HBz.out))
      refine ⟨bstep (bstep BB.out (below1 wa _)) HBz.out, heap_below HBz.out (heap_alloc_new wa _), ?_, ?_, BB.out.size, Nat.le_succ_of_le BB.out.size⟩
      · rw [arK_zero]; exact h2
      · rw [wantK_zero]; exact h1
    clear HZ HBz HA BB HN q0 q1 q2 q3 q4 q5 q6
    generalize wa.heap.size = A at *
    generalize A + 1 = Wn at *
    go_loopw [9] (fun i wr => ∃ (k : Nat) (ca la : Option Addr), k ≤ xs.length ∧ i = .int .i64 k ∧ ApS w wr A Wn n xs k ca la) (fun i _ => xs.length - (intOf i).toNat)
    case atStart => exact ⟨0, _, _, by omega, rfl, S0.out⟩
    case round =>
      obtain ⟨k, ca, la, hk, rfl, hS⟩ := hrel
      have HS := hide hS
      clear hS
      by_cases hlt : k < xs.length
      · obtain ⟨p, off, rfl, hp, hcl⟩ := (HR.out.below HS.out.bl).some (by omega)
        have c0 := hcl k hlt
        have hlI : ((k : Int) < (xs.length : Int)) := by omega
        have hx8 := hxs _ (List.getElem_mem hlt)
        obtain ⟨t0, t1, t2, t3, t4, t5, t6⟩ := at7 HS.out.ar
        obtain ⟨u0, u1, u2, u3, u4, u5, u6⟩ := at7 (heap_past (.cells #[.string ⟨#[]⟩, .int .u8 0, .int .i64 0, .int .i64 0, .int .i64 0, .slice none 0 0, .slice none 0 0] 33) HS.out.ar)
        have c1 := ((below1 wr (.cells #[.string ⟨#[]⟩, .int .u8 0, .int .i64 0, .int .i64 0, .int .i64 0, .slice none 0 0, .slice none 0 0] 33)).cell (p := ⟨p, off + k, none⟩) hp).trans c0
        by_cases hxn : xs[k] < n
        · have HC : Hid (∀ W, ApS w W A Wn n xs k ca la → _) := fun W h => count_step n xs k hlt hn1 (by omega) h500 hx8 hxn W ca la h.an
          have HNX := hide (wantK_set n xs k hlt hxn)
          have HWG := hide (wantK_get n xs k xs[k] hx8)
          rw [if_pos hxn] at HWG
          have HLE := hide (cntF_le xs k xs[k])
          have PA := hide (show ¬ p = A from fun e => by
            obtain ⟨p', off', he, hp', _⟩ := HR.out.some (by omega)
            injection he with he
            injection he with he
            have := HS.out.la'
            omega)
          have wc : IntKind.u64.wrap ((cntF xs k xs[k] : Nat) + 1 : Int) = ((cntF xs k xs[k] + 1 : Nat) : Int) := by rw [IntKind.wrap_u64]; have := HLE.out; omega
          clear hcl
          generalize xs[k] = x at *
          have d3 : ((x : Int) < (n : Int)) = True := by simp; omega
          have wx : IntKind.u64.wrap (x : Int) = x := by rw [IntKind.wrap_u64]; omega
          have wy : IntKind.i64.wrap (x : Int) = x := by rw [IntKind.wrap_i64]; omega
          go_wp2
          go_region_with (go_at_call 16; first
            | (refine (HC.out _ HS.out.drew).mono ?_; rintro e w5 ⟨ca1, la1, rfl, hn5, hb5⟩; have CA := hide (cntA hn5 hb5); clear hn5 hb5)
            | (refine (HC.out _ (HS.out.below (below1 _ _)).drew).mono ?_; rintro e w5 ⟨ca1, la1, rfl, hn5, hb5⟩; have CB := hide (cntB hn5 hb5); obtain ⟨z0, z1, z2, z3, z4, z5, z6⟩ := at7 CB.out.bk; have y0 := softA CB.out.bk 0; have y1 := softA CB.out.bk 1; have y2 := softA CB.out.bk 2; have y3 := softA CB.out.bk 3; have y4 := softA CB.out.bk 4; have y5 := softA CB.out.bk 5; have y6 := softA CB.out.bk 6; clear hn5 hb5))
          all_goals
            first
              | (have CV := hide CA.out
                 generalize w5.heap.size = b at CV ⊢
                 generalize w5.alloc (.cells #[.string ⟨#[99]⟩, .int .u8 4, .int .i64 64, .int .i64 0, .int .i64 0, .slice ca1 n n, .slice la1 0 0] 33) = Wv at CV ⊢)
              | (have CV := hide CB.out.v
                 simp only [setAll, arC, Nat.zero_add, Nat.reduceAdd] at CV
                 generalize (((((((w5.setCell ⟨wr.heap.size, 0, none⟩ (.string ⟨#[99]⟩)).setCell ⟨wr.heap.size, 1, none⟩ (.int .u8 4)).setCell ⟨wr.heap.size, 2, none⟩ (.int .i64 64)).setCell ⟨wr.heap.size, 3, none⟩ (.int .i64 0)).setCell ⟨wr.heap.size, 4, none⟩ (.int .i64 0)).setCell ⟨wr.heap.size, 5, none⟩ (.slice ca1 n n)).setCell ⟨wr.heap.size, 6, none⟩ (.slice la1 0 0)) = Wv at CV ⊢
                 clear z0 z1 z2 z3 z4 z5 z6 y0 y1 y2 y3 y4 y5 y6 CB
                 generalize wr.heap.size = b at CV ⊢)
            clear t0 t1 t2 t3 t4 t5 t6 u0 u1 u2 u3 u4 u5 u6 c1
            have c2 := (CV.out.bl.cell (p := ⟨p, off + k, none⟩) hp).trans c0
            obtain ⟨v0, v1, v2, v3, v4, v5, v6⟩ := at7 (show Wv.heap[b]? = some (.cells #[.string ⟨#[99]⟩, .int .u8 4, .int .i64 64, .int .i64 0, .int .i64 0, .slice ca1 n n, .slice la1 0 0] 33 (0, 0)) from CV.out.bk)
            have HSV := hide (HS.out.below CV.out.bl)
            go_wp2_with (refine wpList_storeA rfl 33 _ _ rfl A (arC n ca1 la1) _ 33 rfl rfl sz33 HSV.out.ar rfl (ar_one ⟨#[99]⟩ 4 64 0 0 (ca1, n, n) (la1, 0, 0)) ?_; intro w6 hw6; have HW6 := hide hw6; clear hw6; have F6 : Hid (Fr (· = A) Wv w6) := (by rw [HW6.out]; exact fr_all _ _ _ _); have R6 : Hid (w6.heap[A]? = some (.cells (arC n ca1 la1).toArray 33 (0, 0))) := (by rw [HW6.out]; exact got0 HSV.out.ar rfl); have c3 := F6.out.cell c2 (PA.out); have wk := (F6.out.block Wn (lt_heap HSV.out.wn) (heap_ne HSV.out.wn HSV.out.ar (by decide))).trans HSV.out.wn; have c4 := (blk_cell wk x).trans HWG.out; have c5 := soft_blk wk x; clear wk)
            have SN := hide (HS.out.next CV.out.bl CV.out.an F6.out R6.out x (.int .u64 ((cntF xs k x + 1 : Nat) : Int)) HNX.out rfl)
            go_roundw
            case rel => exact ⟨k + 1, _, _, by omega, by go_num, SN.out⟩
            case measure => simp [intOf]; omega
        · have HC : Hid (∀ W, ApS w W A Wn n xs k ca la → _) := fun W h => count_stop n xs k hlt hn1 (by omega) h500 hx8 hxn W ca la h.an
          have HAS := hide (arK_same n xs k hlt hxn)
          have HWS := hide (wantK_same n xs k hlt hxn)
          clear hcl
          generalize xs[k] = x at *
          have d3 : ((x : Int) < (n : Int)) = False := by simp; omega
          have wx : IntKind.u64.wrap (x : Int) = x := by rw [IntKind.wrap_u64]; omega
          have wy : IntKind.i64.wrap (x : Int) = x := by rw [IntKind.wrap_i64]; omega
          go_wp2
          go_region_with (go_at_call 16; first
            | (refine (HC.out _ HS.out.drew).mono ?_; rintro e w5 ⟨rfl, hb5⟩; have CA := hide (stpA hb5); clear hb5)
            | (refine (HC.out _ (HS.out.below (below1 _ _)).drew).mono ?_; rintro e w5 ⟨rfl, hb5⟩; have CB := hide (stpB hb5); obtain ⟨z0, z1, z2, z3, z4, z5, z6⟩ := at7 CB.out.2; have y0 := softA CB.out.2 0; have y1 := softA CB.out.2 1; have y2 := softA CB.out.2 2; have y3 := softA CB.out.2 3; have y4 := softA CB.out.2 4; have y5 := softA CB.out.2 5; have y6 := softA CB.out.2 6; clear hb5))
          all_goals
            first
              | (have CV := hide CA.out
                 generalize w5.heap.size = b
                 generalize w5.alloc (.cells #[.string ⟨#[]⟩, .int .u8 0, .int .i64 0, .int .i64 0, .int .i64 0, .slice none 0 0, .slice none 0 0] 33) = Wv at CV ⊢)
              | (have CV := hide (stpC CB.out)
                 simp only [setAll, zeroC, Nat.zero_add, Nat.reduceAdd] at CV
                 generalize (((((((w5.setCell ⟨wr.heap.size, 0, none⟩ (.string ⟨#[]⟩)).setCell ⟨wr.heap.size, 1, none⟩ (.int .u8 0)).setCell ⟨wr.heap.size, 2, none⟩ (.int .i64 0)).setCell ⟨wr.heap.size, 3, none⟩ (.int .i64 0)).setCell ⟨wr.heap.size, 4, none⟩ (.int .i64 0)).setCell ⟨wr.heap.size, 5, none⟩ (.slice none 0 0)).setCell ⟨wr.heap.size, 6, none⟩ (.slice none 0 0)) = Wv at CV ⊢
                 clear z0 z1 z2 z3 z4 z5 z6 y0 y1 y2 y3 y4 y5 y6 CB
                 generalize wr.heap.size = b)
            clear t0 t1 t2 t3 t4 t5 t6 u0 u1 u2 u3 u4 u5 u6 c1
            have c2 := (CV.out.cell (p := ⟨p, off + k, none⟩) hp).trans c0
            have SN : Hid (ApS w Wv A Wn n xs (k + 1) ca la) := (by
              have h := HS.out.below CV.out
              exact ⟨h.bl, h.ar, by rw [HAS.out]; exact h.an, by rw [HWS.out]; exact h.wn, h.la', h.lw⟩)
            go_wp2
            go_roundw
            case rel => exact ⟨k + 1, _, _, by omega, by go_num, SN.out⟩
            case measure => simp [intOf]; omega
      · obtain rfl : k = xs.length := by omega
        go_wp2
        clear hk hlt
        obtain ⟨wo, hwo⟩ : ∃ wo, wo = wr := ⟨_, rfl⟩
        subst hwo
        go_loopw [12] (fun i wq => ∃ (j : Nat), j ≤ n ∧ i = .int .i64 j ∧ Below wo.heap.size wo wq) (fun i _ => n - (intOf i).toNat)
        case atStart => exact ⟨0, by omega, rfl, Below.refl _ _⟩
        case round =>
          obtain ⟨j, hj, rfl, hwr⟩ := hrel
          have HB := hide hwr
          have HSW := hide (HS.out.below hwr)
          clear hwr
          obtain ⟨-, -, -, -, -, t5, -⟩ := at7 (show wr.heap[A]? = some (.cells #[.string ⟨#[99]⟩, .int .u8 4, .int .i64 64, .int .i64 0, .int .i64 0, .slice ca n n, .slice la 0 0] 33 (0, 0)) from HSW.out.ar)
          by_cases hlt : j < n
          · have hlI : ((j : Int) < (n : Int)) := by omega
            have l6 : ((j : Int) < 256) := by omega
            have c6 := (blk_cell HSW.out.wn j).trans (wantK_get n xs xs.length j (by omega))
            rw [if_pos hlt] at c6
            have hown := ownR_some HSW.out.an.cs (by rw [flat_len3, arK_len]; omega)
            obtain ⟨gc, rfl, _, hgc⟩ := hown
            have c7 := (blk_num hgc j (by rw [arK_len]; exact hlt)).2.2
            have e7 : ((arK n xs xs.length).cs[j]'(by rw [arK_len]; exact hlt)).lo = ((cntF xs xs.length j : Nat) : Int) := by simp [arK]
            rw [e7] at c7
            clear hgc e7
            generalize cntF xs xs.length j = cj at *
            go_wp2
            go_region
            go_wp2
            go_roundw
            case rel => exact ⟨j + 1, by omega, by go_num, HB.out.drew⟩
            case measure => simp [intOf]; omega
          · obtain rfl : j = n := by omega
            go_wp2_with fail
            refine (HL.out _).mono ?_
            rintro e wb ⟨rfl, hb⟩
            go_wp2
            go_ret
            exact ⟨rfl, bstep HSW.out.bl hb⟩
  · have d1 : ((xs.length : Int) > 500) = True := by simp; omega
    have d2 : (500 < (xs.length : Int)) = True := by simp; omega
    go_enter Try.func6, Try.ntmps6
    go_wp2_with fail
    refine (HN.out _ _ (heap_alloc_new _ _)).mono ?_
    rintro e wa ⟨g, cap1, ca, la, rfl, q0, q1, q2, q3, q4, q5, q6, hA, hb⟩
    have BB := hide (bstep (below1 _ _) hb)
    clear hb hA
    go_wp2_with fail
    refine (HL.out _).mono ?_
    rintro e wb ⟨rfl, hb⟩
    go_wp2
    go_ret
    exact ⟨rfl, bstep BB.out hb⟩
end Go.Proofs.Ytngeclnlgoamkaa
