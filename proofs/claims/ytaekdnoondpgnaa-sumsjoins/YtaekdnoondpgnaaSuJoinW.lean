/- pointsmanlaw03.SumsJoins, walked. -/
import Derived.Test.YtaekdnoondpgnaaSuJoin
namespace Go.Proofs.Ytaekdnoondpgnaa
open Go.RowKit

theorem RdA.take {W : World} {a : Option Addr} {xs : List Nat} (h : RdA W a xs) (k : Nat) : RdA W a (xs.take k) := by
  rcases h with ⟨rfl, rfl⟩ | ⟨p, off, rfl, hp, hc⟩
  · exact .inl ⟨rfl, by simp⟩
  · exact .inr ⟨p, off, rfl, hp, fun i hi => by
      have h1 : i < xs.length := by simp at hi; omega
      have := hc i h1
      simpa using this⟩
set_option maxRecDepth 100000 in
set_option maxHeartbeats 4000000 in
theorem joins_walk (a b c : Option Addr) (ca cb cc : Nat) (az bz cz : List Nat) (w : World) (h1 : az.length ≤ 9223372036854775807) (h2 : bz.length ≤ 9223372036854775807) (h3 : cz.length ≤ 9223372036854775807)
    (ra : RdA w a az) (rb : RdA w b bz) (rc : RdA w c cz) (xa : ∀ x ∈ az, x < 256) (xb : ∀ x ∈ bz, x < 256) (xc : ∀ x ∈ cz, x < 256) (la : az.length ≤ ca) (lb : bz.length ≤ cb) (lc : cz.length ≤ cc) (na : a = none → ca = 0) (nb : b = none → cb = 0) (nc : c = none → cc = 0) :
    Calls Try.prog 8 #[.slice a az.length ca, .slice b bz.length cb, .slice c cz.length cc] w fun e w' => e = .returned (.bool true) ∧ Below w.heap.size w w' := by
  obtain ⟨m, hm⟩ : ∃ m : Nat, (if bz.length < az.length then (bz.length : Int) else (az.length : Int)) = (m : Int) := by split; exact ⟨_, rfl⟩; exact ⟨_, rfl⟩
  obtain ⟨n, hn⟩ : ∃ n : Nat, (if cz.length < m then (cz.length : Int) else (m : Int)) = (n : Int) := by split; exact ⟨_, rfl⟩; exact ⟨_, rfl⟩
  have hna : n ≤ az.length := by split at hm <;> split at hn <;> omega
  have hnb : n ≤ bz.length := by split at hm <;> split at hn <;> omega
  have hnc : n ≤ cz.length := by split at hm <;> split at hn <;> omega
  have RA := hide ra; have RB := hide rb; have RC := hide rc; have XA := hide xa; have XB := hide xb; have XC := hide xc
  clear ra rb rc xa xb xc
  by_cases hlong : 60000 < n
  · have hI : (n : Int) > 60000 := by omega
    go_enter Try.func8, Try.ntmps8
    go_wp2_with fail
    refine (salive_any _).mono ?_
    rintro e w1 ⟨rfl, hb1⟩
    go_wp2_with fail
    refine (salive_any _).mono ?_
    rintro e w2 ⟨rfl, hb2⟩
    go_wp2
    go_ret
    exact ⟨rfl, hb1.trans (hb2.mono hb1.size)⟩
  · have hI : decide ((n : Int) > 60000) = false := by simp; omega
    have hI2 : ¬ (n : Int) > 60000 := by omega
    go_enter Try.func8, Try.ntmps8
    go_wp2_with fail
    refine (salive_any _).mono ?_
    rintro e w1 ⟨rfl, hb1⟩
    have B1 := hide hb1
    clear hb1
    go_wp2
    clear hm hn
    go_loopw [8, 9, 10] (fun x y i wr => ∃ k : Nat, k ≤ n ∧ i = .int .i64 k ∧ Two w wr x y (jx az bz cz k) (jy az bz k)) (fun _ _ i _ => n - (intOf i).toNat)
    case atStart => exact ⟨0, by omega, rfl, ⟨B1.out, Own8.nil _ _, Own8.nil _ _, fun k h => by cases h⟩⟩
    case round =>
      obtain ⟨k, hk, rfl, ht⟩ := hrel
      have TT := hide ht
      clear ht B1
      by_cases hlt : k < n
      · obtain ⟨pa, oa, rfl, _, hca⟩ := (RA.out.below TT.out.below).some (by omega)
        obtain ⟨pb, ob, rfl, _, hcb⟩ := (RB.out.below TT.out.below).some (by omega)
        obtain ⟨pc, oc, rfl, _, hcc⟩ := (RC.out.below TT.out.below).some (by omega)
        have ea := hca k (by omega); have eb := hcb k (by omega); have ec := hcc k (by omega)
        have ba : az[k] < 256 := XA.out _ (List.getElem_mem _)
        have bb : bz[k] < 256 := XB.out _ (List.getElem_mem _)
        have bc : cz[k] < 256 := XC.out _ (List.getElem_mem _)
        have JX := hide (jx_succ az bz cz k)
        have JY := hide (jy_succ az bz k)
        rw [getD_in az k (by omega), getD_in bz k (by omega)] at JX JY
        rw [getD_in cz k (by omega)] at JX
        have i1 : (k : Int) < (az.length : Int) := by omega
        have i2 : (k : Int) < (bz.length : Int) := by omega
        have i3 : (k : Int) < (cz.length : Int) := by omega
        have hxy := u8_xor_nat az[k] bz[k] ba bb
        have bxy := xor_byte ba bb
        have hxyz := u8_xor_nat (az[k] ^^^ bz[k]) cz[k] bxy bc
        clear hca hcb hcc
        generalize hgx : az[k] = x at *
        generalize hgy : bz[k] = y at *
        generalize cz[k] = z at *
        have HGX := hide hgx; have HGY := hide hgy
        clear hgx hgy
        generalize x ^^^ y = u at *
        generalize u ^^^ z = t at *
        have hjl := jx_length az bz cz k
        have hjl2 := jy_length az bz k
        have HJL := hide hjl; have HJL2 := hide hjl2
        clear hjl hjl2
        go_wp2
        have T1 := hide (fun (o : Obj) => TT.out.next (((Below.refl _ wr).drew).alloc (Nat.le_refl _) o))

        go_region_law (refine step_app8 rfl _ _ rfl w.heap.size _ (jx az bz cz k) rfl (T1.out _).o1 wr.heap.size t rfl (by first | exact one_rd wr t _ | exact (one_rd wr t _).below (Below.refl _ _).drew) (by rw [HJL.out]; omega) (T1.out _).below.size ?_; intro v3 w3 O3 G3 K3)
        all_goals
          have T3 := hide (Two.left (T1.out (.cells #[.int .u8 (t : Int)] 5)) O3 G3 K3)
          rw [← JX.out] at T3
          have ea3 := (RA.out.below T3.out.below).some (by omega)
          obtain ⟨_, _, e, _, hca⟩ := ea3
          injection e with e
          injection e with e1 e2
          subst e1 e2
          have eb3 := (RB.out.below T3.out.below).some (by omega)
          obtain ⟨_, _, e, _, hcb⟩ := eb3
          injection e with e
          injection e with e1 e2
          subst e1 e2
          have fa := hca k (by omega); have fb := hcb k (by omega)
          rw [HGX.out] at fa
          rw [HGY.out] at fb
          have T4 := hide (fun (o : Obj) => T3.out.next (((Below.refl _ w3).drew).alloc (Nat.le_refl _) o))
          clear T1 TT O3 G3 K3 hca hcb ea eb ec T3
          go_wp2
          go_region_law (refine step_app8 rfl _ _ rfl w.heap.size _ (jy az bz k) rfl (T4.out _).o2 w3.heap.size u rfl (by first | exact one_rd w3 u _ | exact (one_rd w3 u _).below (Below.refl _ _).drew) (by rw [HJL2.out]; omega) (T4.out _).below.size ?_; intro v5 w5 O5 G5 K5)
          all_goals
            have T5 := hide (Two.right (T4.out (.cells #[.int .u8 (u : Int)] 5)) O5 G5 K5)
            rw [← JY.out] at T5
            clear T4 O5 G5 K5 fa fb
            go_wp2
            go_roundw
            case rel => exact ⟨k + 1, by omega, by go_num, T5.out⟩
            case measure => simp [intOf]; omega
      · obtain rfl : k = n := by omega
        obtain ⟨ax, cx, rfl, hcx, _, _⟩ := TT.out.o1.shape
        obtain ⟨ay, cy, rfl, hcy, _, _⟩ := TT.out.o2.shape
        rw [jx_length] at TT hcx
        rw [jx_length]
        rw [jy_length] at TT hcy
        rw [jy_length]
        have JC := hide (fun (q : Nat) (hq : q = 1 ∨ q = 2) => join_crc q hq XA.out XB.out XC.out k hna hnb hnc)
        have JX4 := hide (join_xor XA.out XB.out k hna hnb)
        have mt : ∀ {l : List Nat}, (∀ x ∈ l, x < 256) → ∀ x ∈ l.take k, x < 256 := fun hl x hx => hl x (List.mem_of_mem_take hx)
        have HX := hide (fun (q : Int) (q0 : 1 ≤ q) (q1 : q ≤ 4) W (h : Two w W (.slice ax k cx) (.slice ay k cy) (jx az bz cz k) (jy az bz k)) => of_law q q0 q1 ax cx (jx az bz cz k) W (jx_byte XA.out XB.out XC.out k) (by rw [jx_length]; omega) h.o1.rd.2)
        have HY := hide (fun (q : Int) (q0 : 1 ≤ q) (q1 : q ≤ 4) W (h : Two w W (.slice ax k cx) (.slice ay k cy) (jx az bz cz k) (jy az bz k)) => of_law q q0 q1 ay cy (jy az bz k) W (jy_byte XA.out XB.out k) (by rw [jy_length]; omega) h.o2.rd.2)
        have HA := hide (fun (q : Int) (q0 : 1 ≤ q) (q1 : q ≤ 4) W (h : Two w W (.slice ax k cx) (.slice ay k cy) (jx az bz cz k) (jy az bz k)) => of_law q q0 q1 a ca (az.take k) W (mt XA.out) (by rw [List.length_take]; omega) ((RA.out.below h.below).take k))
        have HB := hide (fun (q : Int) (q0 : 1 ≤ q) (q1 : q ≤ 4) W (h : Two w W (.slice ax k cx) (.slice ay k cy) (jx az bz cz k) (jy az bz k)) => of_law q q0 q1 b cb (bz.take k) W (mt XB.out) (by rw [List.length_take]; omega) ((RB.out.below h.below).take k))
        have HC := hide (fun (q : Int) (q0 : 1 ≤ q) (q1 : q ≤ 4) W (h : Two w W (.slice ax k cx) (.slice ay k cy) (jx az bz cz k) (jy az bz k)) => of_law q q0 q1 c cc (cz.take k) W (mt XC.out) (by rw [List.length_take]; omega) ((RC.out.below h.below).take k))
        rw [jx_length] at HX
        rw [jy_length] at HY
        rw [List.length_take, Nat.min_eq_left hna] at HA
        rw [List.length_take, Nat.min_eq_left hnb] at HB
        rw [List.length_take, Nat.min_eq_left hnc] at HC
        have jl := jx_length az bz cz k
        go_wp2
        go_loopw [11] (fun i wq => ∃ q : Nat, 1 ≤ q ∧ q ≤ 3 ∧ i = .int .i64 q ∧ Two w wq (.slice ax k cx) (.slice ay k cy) (jx az bz cz k) (jy az bz k)) (fun i _ => 3 - (intOf i).toNat)
        case atStart => exact ⟨1, by omega, by omega, rfl, TT.out⟩
        case round =>
          obtain ⟨q, hq1, hq3, rfl, ht⟩ := hrel
          have TQ := hide ht
          clear ht TT
          by_cases hq : q ≤ 2
          · have hqI : (q : Int) ≤ 2 := by omega
            have EJ := hide (JC.out q (by omega))
            have HXq := hide (HX.out q (by omega) (by omega)); have HAq := hide (HA.out q (by omega) (by omega)); have HBq := hide (HB.out q (by omega) (by omega)); have HCq := hide (HC.out q (by omega) (by omega))
            have bA := sumF_u32 q (by omega) (az.take k) (mt XA.out)
            have bB := sumF_u32 q (by omega) (bz.take k) (mt XB.out)
            have bC := sumF_u32 q (by omega) (cz.take k) (mt XC.out)
            have e1 := u64_xor_nat (sumF q (az.take k)) (sumF q (bz.take k)) (by omega) (by omega)
            have bU : sumF q (az.take k) ^^^ sumF q (bz.take k) < 4294967296 := Nat.xor_lt_two_pow (n := 32) bA bB
            have e2 := u64_xor_nat (sumF q (az.take k) ^^^ sumF q (bz.take k)) (sumF q (cz.take k)) (by omega) (by omega)
            rw [← EJ.out] at e2
            generalize sumF q (az.take k) = SA at *
            generalize sumF q (bz.take k) = SB at *
            generalize sumF q (cz.take k) = SC at *
            generalize SA ^^^ SB = SU at *
            clear EJ
            generalize sumF q (jx az bz cz k) = SX at *
            clear HX HY HA HB HC JC JX4 mt jl RA RB RC XA XB XC
            generalize jx az bz cz k = jX at *
            generalize jy az bz k = jY at *
            have kca : (k : Int) ≤ (ca : Int) := by omega
            have kcb : (k : Int) ≤ (cb : Int) := by omega
            have kcc : (k : Int) ≤ (cc : Int) := by omega
            have k0 : (0 : Int) ≤ (k : Int) := by omega
            go_wp2
            go_region_held3 (fun w' => Two w w' (.slice ax k cx) (.slice ay k cy) jX jY) (first | exact Two.next (by assumption) (by assumption) | exact TQ.out.next (Below.refl _ _).drew)
              (first
                | (go_at_call_of 23 ax; refine (HXq.out _ (by assumption)).mono ?_; rintro e wn ⟨rfl, hb⟩)
                | (go_at_call_of 23 a; refine (HAq.out _ (by assumption)).mono ?_; rintro e wn ⟨rfl, hb⟩)
                | (go_at_call_of 23 b; refine (HBq.out _ (by assumption)).mono ?_; rintro e wn ⟨rfl, hb⟩)
                | (go_at_call_of 23 c; refine (HCq.out _ (by assumption)).mono ?_; rintro e wn ⟨rfl, hb⟩))
            all_goals
              have hT : Two w wn (.slice ax k cx) (.slice ay k cy) jX jY := by assumption
              have HT := hide hT
              clear hT
              go_wp2
              go_roundw
              case rel => exact ⟨q + 1, by omega, by omega, by go_num, HT.out⟩
              case measure => simp [intOf]; omega
          · have hqI : decide ((q : Int) ≤ 2) = false := by simp; omega
            have hqI2 : ¬ (q : Int) ≤ 2 := by omega
            have HYq := hide (HY.out 4 (by omega) (by omega)); have HAq := hide (HA.out 4 (by omega) (by omega)); have HBq := hide (HB.out 4 (by omega) (by omega))
            have bA := sumF_u32 4 (by omega) (az.take k) (mt XA.out)
            have bB := sumF_u32 4 (by omega) (bz.take k) (mt XB.out)
            have e1 := u64_xor_nat (sumF 4 (az.take k)) (sumF 4 (bz.take k)) (by omega) (by omega)
            rw [← JX4.out] at e1
            generalize sumF 4 (az.take k) = SA at *
            generalize sumF 4 (bz.take k) = SB at *
            clear JX4
            generalize sumF 4 (jy az bz k) = SY at *
            clear HX HY HA HB HC JC mt jl RA RB RC XA XB XC
            generalize jx az bz cz k = jX at *
            generalize jy az bz k = jY at *
            have kca : (k : Int) ≤ (ca : Int) := by omega
            have kcb : (k : Int) ≤ (cb : Int) := by omega
            have k0 : (0 : Int) ≤ (k : Int) := by omega
            go_wp2
            go_region_held3 (fun w' => Two w w' (.slice ax k cx) (.slice ay k cy) jX jY) (first | exact Two.next (by assumption) (by assumption) | exact TQ.out.next (Below.refl _ _).drew)
              (first
                | (go_at_call_of 23 ay; refine (HYq.out _ (by assumption)).mono ?_; rintro e wn ⟨rfl, hb⟩)
                | (go_at_call_of 23 a; refine (HAq.out _ (by assumption)).mono ?_; rintro e wn ⟨rfl, hb⟩)
                | (go_at_call_of 23 b; refine (HBq.out _ (by assumption)).mono ?_; rintro e wn ⟨rfl, hb⟩))
            all_goals
              have hT : Two w wn (.slice ax k cx) (.slice ay k cy) jX jY := by assumption
              have HT := hide hT
              clear hT
              go_wp2
              go_ret
              exact ⟨rfl, HT.out.below⟩
end Go.Proofs.Ytaekdnoondpgnaa
