/- pointsmanlaw04.DiskKeeps, walked: its loops. -/
import Derived.Test.YtlplcncdedjkmaaDkK
namespace Go.Proofs.Ytlplcncdedjkmaa
open Go.RowKit

set_option maxRecDepth 100000 in
set_option maxHeartbeats 2000000 in
theorem keeps_yes (a0 a1 : Option Addr) (c0 c1 : Nat) (ls : List It) (zs : List Int) (w : World) (hl : ls.length ≤ 300) (hL : RdL w a0 ls) (hZ : RdZ .i64 w a1 zs) (hz : ∀ z ∈ zs, z < 9223372036854775808) :
    Calls Try.prog 3 #[.slice a0 ls.length c0, .slice a1 zs.length c1] w fun e w' => e = .returned (.bool true) ∧ Below w.heap.size w w' := by
  have d1 : decide ((ls.length : Int) > 300) = false := by simp; omega
  have d2 : decide (300 < ls.length) = false := by simp; omega
  have HL := hide hL
  have HZ := hide hZ
  have HB := hide hz
  clear hL hZ hz
  go_enter Try.func3, Try.ntmps3
  go_wp2_with fail
  refine (alive_yes _).mono ?_
  rintro e w1 ⟨rfl, hb1⟩
  have B1 := hide hb1
  clear hb1
  go_wp2
  go_loopw [5, 6] (fun n i wr => ∃ k : Nat, k ≤ ls.length ∧ i = .int .i64 k ∧ n = .int .i64 (tot (ls.take k) : Nat) ∧ tot (ls.take k) ≤ 300000 ∧ Below w.heap.size w wr) (fun _ i _ => ls.length - (intOf i).toNat)
  case atStart => exact ⟨0, by omega, rfl, rfl, by simp [tot], B1.out⟩
  case round =>
    obtain ⟨k, hk, rfl, rfl, ht, hb⟩ := hrel
    have B2 := hide hb
    clear hb B1
    by_cases hlt : k < ls.length
    · have hR := HL.out.below B2.out
      rcases hR.rd with e | ⟨p, off, rfl, _, hc⟩
      · rw [e] at hlt; simp at hlt
      have hck := hc k hlt
      have hln := (hR.ok _ (List.getElem_mem hlt)).ln
      have HT := hide (tot_succ ls k hlt)
      have hkI : (k : Int) < (ls.length : Int) := by omega
      clear hc hR HL HZ HB
      generalize ls[k] = it at *
      obtain ⟨ia, ic, ixs⟩ := it
      simp only at hck hln HT
      have wn : IntKind.i64.wrap ((tot (ls.take k) : Nat) + (ixs.length : Nat) : Int) = ((tot (ls.take k) + ixs.length : Nat) : Int) := by rw [IntKind.wrap_i64]; omega
      generalize tot (ls.take k) = T at *
      by_cases hbig : 300000 < T + ixs.length
      · have d3 : decide (((T + ixs.length : Nat) : Int) > 300000) = true := by simp; omega
        have d4 : decide (300000 < T + ixs.length) = true := by simp; omega
        go_wp2
        go_ret
        exact ⟨rfl, B2.out⟩
      · have d3 : decide (((T + ixs.length : Nat) : Int) > 300000) = false := by simp; omega
        have d4 : decide (300000 < T + ixs.length) = false := by simp; omega
        go_wp2
        go_roundw
        case rel => exact ⟨k + 1, by omega, by go_num, by rw [HT.out]; simp, by rw [HT.out]; omega, B2.out⟩
        case measure => simp [intOf]; omega
    · obtain rfl : k = ls.length := by omega
      rw [List.take_length] at ht
      have HT := hide ht
      clear ht
      generalize hT : tot (ls.take ls.length) = T
      clear hT
      go_wp2_with fail
      refine (new_yes 1048576 _ (by decide) (by decide)).mono ?_
      rintro e w3 ⟨rfl, hd, hb⟩
      have K1 : Hid (KS w w3 wr.heap.size (.slice none 0 0) (.slice none 0 0) [] [] false .nilFunc none) := ⟨B2.out.trans (hb.mono B2.out.size), hd.lower B2.out.size, Own8.nil _ _, (by intro h; cases h), (by intro b h; cases h)⟩
      generalize wr.heap.size = g at *
      clear hd hb B2
      go_wp2
      go_loopw [9, 10] (fun u i wr => ∃ (k : Nat) (v : Value) (xs : List Nat), k ≤ ls.length ∧ i = .int .i64 k ∧ xs.length ≤ tot (ls.take k) ∧ KS w wr g v u xs xs false .nilFunc none) (fun _ i _ => ls.length - (intOf i).toNat)
      case atStart => exact ⟨0, _, [], by omega, rfl, by simp, K1.out⟩
      case round =>
        obtain ⟨k, v, xs, hk, rfl, hx, hK⟩ := hrel
        have K2 := hide hK
        have OS := hide hK.ow.sl
        clear hK K1
        obtain ⟨aw, nw, cw, rfl⟩ := OS.out
        clear OS
        by_cases hlt : k < ls.length
        · have hkI : (k : Int) < (ls.length : Int) := by omega
          have dk1 : decide (k < ls.length) = true := by simp; omega
          obtain ⟨p, off, rfl, hcl⟩ : ∃ p off, a0 = some ⟨p, off, none⟩ ∧ ∀ W', Below w.heap.size w W' → W'.cell? ⟨p, off + k, none⟩ = some (.slice ls[k].a ls[k].xs.length ls[k].cap) := by
            rcases HL.out.rd with e | ⟨p, off, e, hp, hc⟩
            · rw [e] at hlt; simp at hlt
            · exact ⟨p, off, e, fun W' hb => (hb.cell (p := ⟨p, off + k, none⟩) hp).trans (hc k hlt)⟩
          have HO := hide (fun W' (hb : Below w.heap.size w W') => (HL.out.below hb).ok _ (List.getElem_mem hlt))
          have HT2 := hide (tot_succ ls k hlt)
          have hle : tot (ls.take (k + 1)) ≤ 300000 := Nat.le_trans (tot_le ls (k + 1)) HT.out
          rw [HT2.out] at hle
          have HC := hide hcl
          clear hcl
          generalize ls[k] = it at *
          obtain ⟨ia, ic, ys⟩ := it
          simp only at HC HO HT2 hle
          have hcap := (HO.out w (Below.refl _ _)).le
          have hnn := (HO.out w (Below.refl _ _)).nn
          simp only at hcap hnn
          have c2 := HC.out _ K2.out.bl
          by_cases hfl : ∃ zn : Nat, ∃ h : k < zs.length, zs[k] = zn
          · obtain ⟨zn, hzk, hzn⟩ := hfl
            have hzb : zn < 9223372036854775808 := by have := HB.out _ (List.getElem_mem hzk); omega
            obtain ⟨p1, off1, rfl, hcz⟩ : ∃ p off, a1 = some ⟨p, off, none⟩ ∧ ∀ W', Below w.heap.size w W' → W'.cell? ⟨p, off + k, none⟩ = some (.int .i64 zn) := by
              rcases HZ.out with ⟨_, e⟩ | ⟨p, off, e, hp, hc⟩
              · rw [e] at hzk; simp at hzk
              · exact ⟨p, off, e, fun W' hb => (hb.cell (p := ⟨p, off + k, none⟩) hp).trans ((hc k hzk).trans (by rw [hzn]))⟩
            have HCZ := hide hcz
            have cz2 := HCZ.out _ K2.out.bl
            have hzI : (k : Int) < (zs.length : Int) := by omega
            have dz1 : decide (k < zs.length) = true := by simp; omega
            have dz2 : decide ((zn : Int) ≥ 0) = true := by simp
            clear hcz HL HZ HB hzn
            go_wp2_with fail
            refine (fail_yes zn hzb K2.out.dk).mono ?_
            rintro e w4 ⟨rfl, ⟨f4, hd⟩, hm⟩
            have K3 := hide (K2.out.move hm hd)
            have c3 := HC.out _ K3.out.bl
            clear hd hm c2 cz2 K2
            go_wp2_with fail
            refine (append_cut ia ic ys (HO.out _ K3.out.bl).rd hcap hnn (by omega) K3.out.dk).mono ?_
            rintro e w5 ⟨rfl, v5, hd, hm⟩
            have K4 := hide (K3.out.move hm hd)
            have c4 := HC.out _ K4.out.bl
            clear hd hm c3 K3
            go_wp2_with fail
            refine (down_yes K4.out.dk).mono ?_
            rintro e w6 ⟨rfl, hw⟩
            subst hw
            go_wp2_with fail
            refine (append_off _ K4.out.dk).mono ?_
            rintro e w7 ⟨rfl, hw⟩
            subst hw
            go_wp2_with fail
            refine (trim_off 0 K4.out.dk).mono ?_
            rintro e w8 ⟨rfl, hw⟩
            subst hw
            go_wp2_with fail
            refine (up_yes K4.out.dk).mono ?_
            rintro e w9 ⟨rfl, hd, hm⟩
            have K5 := hide (K4.out.move hm hd)
            have c5 := HC.out _ K5.out.bl
            have cz5 := HCZ.out _ K5.out.bl
            clear hd hm c4 K4
            go_wp2
            have K6 : Hid (∀ n, KS w (w9.drewN n) g v5 (.slice aw nw cw) (xs ++ ys.take zn) xs false .nilFunc none) := fun n => K5.out.next ⟨rfl, rfl, rfl, Nat.le_refl _, fun _ _ => rfl⟩
            have HLn : Hid ((xs ++ ys.take zn).length ≤ tot (ls.take (k + 1))) := by show _ ≤ _; rw [HT2.out, List.length_append, List.length_take]; omega
            have hrd := (HO.out _ K5.out.bl).rd
            simp only at hrd
            by_cases hy : ys = []
            · subst hy
              simp only [List.length_nil, List.take_nil] at c5 K6 HLn hcap hle K5 ⊢
              have e1 : (if (0 : Int) < (zn : Int) then (0 : Int) else (zn : Int)) = 0 := by split <;> omega
              have e2 : (if 0 < zn then (0 : Int) else (zn : Int)) = 0 := by split <;> omega
              cases ia with
              | none =>
                obtain rfl := hnn rfl
                go_region_law (refine step_appL rfl _ _ rfl w.heap.size _ xs rfl (K6.out 1).ow none 0 0 [] rfl rfl (.inl rfl) (by simp)  (by have := K5.out.dk.le; rw [List.length_append] at this; omega) (K6.out 1).bl.size ?_; intro v7 w7 O7 G7 K7; obtain ⟨a7, n7, q7, rfl⟩ := O7.sl; have K8 := hide ((K6.out 1).want O7 G7 K7); clear O7 G7 K7)
                all_goals
                  go_wp2
                  go_roundw
                  case rel => exact ⟨k + 1, _, xs ++ [], by omega, by go_num, HLn.out, K8.out⟩
                  case measure => simp [intOf]; omega
              | some q =>
                have hqa : q.add 0 = q := by simp [Addr.add]
                go_region_law (refine step_appL rfl _ _ rfl w.heap.size _ xs rfl (K6.out 1).ow (some q) 0 ic [] rfl rfl (.inl rfl) (by simp)  (by have := K5.out.dk.le; rw [List.length_append] at this; omega) (K6.out 1).bl.size ?_; intro v7 w7 O7 G7 K7; obtain ⟨a7, n7, q7, rfl⟩ := O7.sl; have K8 := hide ((K6.out 1).want O7 G7 K7); clear O7 G7 K7)
                all_goals
                  go_wp2
                  go_roundw
                  case rel => exact ⟨k + 1, _, xs ++ [], by omega, by go_num, HLn.out, K8.out⟩
                  case measure => simp [intOf]; omega
            · rcases hrd with e | ⟨pb, ob, rfl, hpb, hcb⟩
              · exact absurd e hy
              obtain ⟨m, hm1, hm2⟩ : ∃ m, m = (ys.take zn).length ∧ m = min zn ys.length := ⟨_, rfl, by simp⟩
              have e1 : (if (ys.length : Int) < (zn : Int) then (ys.length : Int) else (zn : Int)) = (m : Int) := by split <;> omega
              have e2 : (if ys.length < zn then (ys.length : Int) else (zn : Int)) = (m : Int) := by split <;> omega
              have hmc : (m : Int) ≤ (ic : Int) := by omega
              have hml : m ≤ ys.length := by omega
              have HM := hide hm1
              have HR : Hid (∀ n, RdA (w9.drewN n) (some ⟨pb, ob, none⟩) (ys.take zn)) := fun n => RdA.pre (.inr ⟨pb, ob, rfl, hpb, hcb⟩) zn
              clear hm1 hm2 hcb
              go_region_law (refine step_appL rfl _ _ rfl w.heap.size _ xs rfl (K6.out 1).ow (some ⟨pb, ob, none⟩) m ic (ys.take zn) rfl HM.out (HR.out 1) (by simp)  (by have := K5.out.dk.le; rw [List.length_append] at this; omega) (K6.out 1).bl.size ?_; intro v7 w7 O7 G7 K7; obtain ⟨a7, n7, q7, rfl⟩ := O7.sl; have K8 := hide ((K6.out 1).want O7 G7 K7); clear O7 G7 K7)
              all_goals
                go_wp2
                go_roundw
                case rel => exact ⟨k + 1, _, xs ++ ys.take zn, by omega, by go_num, HLn.out, K8.out⟩
                case measure => simp [intOf]; omega
          · have dz : (k < zs.length ∧ ∃ p off, a1 = some ⟨p, off, none⟩ ∧ ∃ z : Int, z < 0 ∧ ∀ W', Below w.heap.size w W' → W'.cell? ⟨p, off + k, none⟩ = some (.int .i64 z)) ∨ ¬ k < zs.length := by
              by_cases hzk : k < zs.length
              · rcases HZ.out with ⟨_, e⟩ | ⟨p, off, e, hp, hc⟩
                · rw [e] at hzk; simp at hzk
                · refine .inl ⟨hzk, p, off, e, zs[k], ?_, fun W' hb => (hb.cell (p := ⟨p, off + k, none⟩) hp).trans (hc k hzk)⟩
                  have : ¬ 0 ≤ zs[k] := fun h => hfl ⟨zs[k].toNat, hzk, by omega⟩
                  omega
              · exact .inr hzk
            clear HL HZ HB hfl
            have HA := hide (append_yes ia ic ys (HO.out _ K2.out.bl).rd hnn (by omega) K2.out.dk)
            have HLn : Hid ((xs ++ ys).length ≤ tot (ls.take (k + 1))) := by show _ ≤ _; rw [HT2.out, List.length_append]; omega
            rcases dz with ⟨hzk, p1, off1, rfl, z, hz0, hcz⟩ | hzk
            · have cz2 := hcz _ K2.out.bl
              have hzI : (k : Int) < (zs.length : Int) := by omega
              have dz1 : decide (k < zs.length) = true := by simp; omega
              have dz2 : decide (z ≥ 0) = false := by simp; omega
              have dz3 : decide (0 ≤ z) = false := by simp; omega
              clear hcz
              go_wp2_with fail
              refine HA.out.mono ?_
              rintro e w5 ⟨rfl, v5, hd, hm⟩
              have K4 := hide (K2.out.move hm hd)
              have c4 := HC.out _ K4.out.bl
              clear hd hm c2 cz2 K2 HA
              go_wp2_with fail
              refine (down_yes K4.out.dk).mono ?_
              rintro e w6 ⟨rfl, hw⟩
              subst hw
              have HR6 := hide (HO.out _ K4.out.bl).rd
              go_wp2_with (first
                | (at_builtin; refine wpList_app8 rfl _ _ rfl w.heap.size _ xs rfl K4.out.ow ia ys.length ic ys rfl rfl HR6.out hnn (by have := K4.out.dk.le; rw [List.length_append] at this; omega) K4.out.bl.size ?_; intro v7 w7 O7 G7 K7; have K8 := hide (K4.out.want O7 G7 K7); clear O7 G7 K7))
              go_roundw
              case rel => exact ⟨k + 1, _, xs ++ ys, by omega, by go_num, HLn.out, K8.out⟩
              case measure => simp [intOf]; omega
            · have dz1 : decide (k < zs.length) = false := by simp; omega
              go_wp2_with fail
              refine HA.out.mono ?_
              rintro e w5 ⟨rfl, v5, hd, hm⟩
              have K4 := hide (K2.out.move hm hd)
              have c4 := HC.out _ K4.out.bl
              clear hd hm c2 K2 HA
              go_wp2_with fail
              refine (down_yes K4.out.dk).mono ?_
              rintro e w6 ⟨rfl, hw⟩
              subst hw
              have HR6 := hide (HO.out _ K4.out.bl).rd
              go_wp2_with (first
                | (at_builtin; refine wpList_app8 rfl _ _ rfl w.heap.size _ xs rfl K4.out.ow ia ys.length ic ys rfl rfl HR6.out hnn (by have := K4.out.dk.le; rw [List.length_append] at this; omega) K4.out.bl.size ?_; intro v7 w7 O7 G7 K7; have K8 := hide (K4.out.want O7 G7 K7); clear O7 G7 K7))
              go_roundw
              case rel => exact ⟨k + 1, _, xs ++ ys, by omega, by go_num, HLn.out, K8.out⟩
              case measure => simp [intOf]; omega
        · have dk1 : decide (k < ls.length) = false := by simp; omega
          have hK := K2.out
          go_wp2_with fail
          refine (bytes_yes K2.out.dk).mono ?_
          rintro e w4 ⟨u4, rfl, ho, hb⟩
          have K3 := hide (K2.out.next hb)
          obtain ⟨a4, c4, rfl, _, _, _⟩ := ho.shape
          have e1 := K3.out.ow.rd.1
          subst e1
          have HS := hide (same_rd xs (by have := K3.out.dk.le; omega) a4 aw c4 cw w4 ho.rd.2 K3.out.ow.rd.2)
          clear ho hb hK
          go_wp2_with fail
          refine HS.out.mono ?_
          rintro e w5 ⟨rfl, hb⟩
          have B5 := hide (K3.out.bl.trans (hb.mono K3.out.bl.size))
          clear hb
          go_wp2
          go_ret
          exact ⟨rfl, B5.out⟩
end Go.Proofs.Ytlplcncdedjkmaa
