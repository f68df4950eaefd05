/- Pieces of the proof: BnHm, BnLm, BgMe. -/
import Derived.Test.YteflnicgohjiiaaGreatDoorM27
import Derived.Test.YteflnicgohjiiaaGreatDoorM26
import Derived.Test.YteflnicgohjiiaaGreatDoorM6
import Derived.Test.YteflnicgohjiiaaGreatDoorM21
/- growMatch of a Book. -/
namespace Go.Proofs.YteflnicgohjiiaaGreatDoor
open Go.RowKit

theorem Tryz.infoBMatch : (Tryz.prog.info? 105).map (fun i => (i.zero, i.size, i.bytes)) = some (some (.agg #[.int .i64 0, .int .u64 0, .int .u64 0, .int .i64 0, .int .u64 0, .int .u64 0, .int .i64 0]), 7, 56) := by kernel_rfl
abbrev GrMatch (W wr : World) (B g : Nat) (vb : Value) (hs ks : List Hc) (k : Nat) : Prop := GrC 157 9 105 7 mkMatch W wr B g vb hs ks k
set_option maxRecDepth 100000 in
set_option maxHeartbeats 2000000 in
theorem growMatch_any {W : World} {B g : Nat} {vb : Value} {hs : List Hc} (h : GrMatch W W B g vb hs hs 0) (hn : hs.length ≤ 1000000) :
    Calls Tryz.prog 79 #[.pointer (some ⟨g, 0, none⟩)] W fun e W' => e = .returned (.tuple #[]) ∧ ∃ ks, ks.length = hs.length ∧ GrMatch W W' B g vb hs ks ks.length := by
  have H0 := hide h
  have HBB : Hid (B ≤ W.heap.size) := by have := h.bk.gB; have := h.bk.lt; show _ ≤ _; omega
  obtain ⟨i0, hi0, hz0, hz1, hz2⟩ := info_parts Tryz.infoBMatch
  obtain ⟨av, nv, cv, hv⟩ : ∃ a n' c, vb = .slice a n' c := by
    rcases h.bk.row.2 with ⟨e, _⟩ | ⟨r, cap, cur, e, _⟩ <;> exact ⟨_, _, _, e⟩
  have hnv : nv = hs.length := by
    rcases h.bk.row.2 with ⟨e, e2⟩ | ⟨r, cap, cur, e, _⟩
    · rw [hv] at e; cases e; exact e2.symm
    · rw [hv] at e; cases e; rfl
  subst hv hnv
  clear h
  generalize hN : hs.length = N at *
  have HN := hide hN
  clear hN
  go_enter Tryz.func79, Tryz.ntmps79
  go_wp2
  go_loopg [2] N (fun gk i wr => ∃ (k : Nat) (ks : List Hc), k + gk = N ∧ i = .int .i64 k ∧ ks.length = N ∧ GrMatch W wr B g (.slice av N cv) hs ks k)
  case atStart => exact ⟨0, hs, by omega, rfl, HN.out, H0.out⟩
  case round =>
    obtain ⟨k, ks, hk, rfl, hksl, hG⟩ := hrel
    have HK := hide hksl
    have HKG := hide hk
    have G1 := hide hG
    have c2 := hG.bk.co
    clear hG H0 hksl
    by_cases hlt : k < N
    · have hlt' : k < ks.length := by have := HK.out; omega
      obtain ⟨r, cap, hv, hr, _, hcap, r0, r1, r2, rs⟩ := G1.out.bk.at hlt'
      injection hv with hv1 hv2 hv3
      clear hv2
      subst hv1 hv3
      have hkI : (k : Int) < (N : Int) := by omega
      have dk : decide (k < N) = true := by simp; omega
      have hlim := G1.out.lim _ (List.getElem_mem hlt')
      have hown := G1.out.td k hlt' (Nat.le_refl _)
      have hb1 : Below wr.heap.size wr (wr.alloc (.cells #[ks[k].v, ks[k].vl, .int .i64 ks[k].m] 157)) := (Below.refl _ _).alloc (Nat.le_refl _) _
      have G2 := hide (G1.out.next mkMatch_len hb1)
      have HZ : Hid (B ≤ (wr.alloc (.cells #[ks[k].v, ks[k].vl, .int .i64 ks[k].m] 157)).heap.size) := by have := G1.out.bk.gB; have := G1.out.bk.lt; have := hb1.size; show _ ≤ _; omega
      have hsep := G1.out.sep
      have HBK := hide (fun (wi : World) (hf : Fr (fun b => ks[k].v.ownBlock = some b) _ wi) => (G2.out.bk.fr hf (hsep.g _ (List.getElem_mem hlt')) (fun b hb e => hsep.b _ (List.getElem_mem hlt') b e hb)))
      have HST := hide (fun (wi : World) (lv : Value) => G2.out.step mkMatch_len (wi := wi) (lv := lv) HK.out hlt')
      have HM := hide (fun W => markMatch_any ks[k].m hlim.2.1 W)
      have HI : Hid (GInC 105 7 (mkMatch ks[k].m) _ _ B ks[k].v ks[k].v ks[k].n 0) := ⟨owR_below hown hb1, owR_rdM (owR_below hown hb1), Fr.refl _ _, fun b hb => .inl hb⟩
      have hnc : ¬ ks[k].v.ownBlock = some wr.heap.size := fun e => by have := (World.ownsRow.lt hown _ e).2; omega
      have hsz := hb1.size
      obtain ⟨e0, e1, e2⟩ := boxC wr ks[k].v ks[k].vl (.int .i64 ks[k].m) 157
      have HAT := hide (fun (w' : World) (hb : GB 157 9 w' B g (.slice (some ⟨r, 0, none⟩) N cv) ks) => hb.at hlt')
      have hsl := owR_shape hown
      obtain ⟨hx1, hx2, hx3⟩ := hlim
      clear hb1 hsep hown
      generalize hxk : ks[k] = x at *
      obtain ⟨v, vl, m, n⟩ := x
      simp only at *
      obtain ⟨a1, c1, hv1⟩ := hsl
      obtain ⟨al, nl, cl, hvl⟩ := hx3
      subst hv1 hvl
      generalize hW1 : wr.alloc (.cells #[.slice a1 n c1, .slice al nl cl, .int .i64 m] 157) = W1 at *
      have HW1 := hide hW1
      have HNC := hide hnc
      have HSZ := hide hsz
      clear hW1 hxk hsz
      rw [Nat.mul_comm] at r0 r1 r2
      obtain ⟨go, hgo⟩ : ∃ go, go = gk := ⟨_, rfl⟩
      subst hgo
      clear hk
      go_wp2
      rw [HW1.out]
      clear HW1 G1 G2
      generalize wr.heap.size = c at *
      go_loopg [4, 5] 40 (fun gk lv j wi => ∃ q : Nat, q + gk = 40 ∧ j = .int .i64 q ∧ GInC 105 7 (mkMatch m) W1 wi B (.slice a1 n c1) lv n q)
      case atStart => exact ⟨0, by omega, rfl, HI.out⟩
      case round =>
        obtain ⟨q, hq, rfl, hin⟩ := hrel
        have HIN := hide hin
        obtain ⟨a2, c2', hv2⟩ := owR_shape hin.ow
        subst hv2
        have f2 := hin.fr.cell e2 HNC.out
        have HQ := hide hq
        by_cases hqt : q < 40
        · have hqI : (q : Int) < 40 := by omega
          have dq : decide (q < 40) = true := by simp; omega
          have Z3 : Hid (B ≤ wr.heap.size) := Nat.le_trans HZ.out hin.fr.size
          clear hin e0 e1 e2 r0 r1 r2 c2 rs HST HBK HAT hnc hq
          generalize hnq : n + q = nq at *
          have HNQ := hide hnq
          clear hnq
          go_wp2_with (first
            | (go_at_call 159; refine (HM.out _).mono ?_; rintro e w7 ⟨rfl, hb7⟩; have I7 := hide (HIN.out.next (mkMatch_len m) hb7); have Z7 : Hid (B ≤ w7.heap.size) := Nat.le_trans Z3.out hb7.size; clear hb7)
            | (at_builtin; refine wpList_appC rfl _ _ 27 rfl 105 i0 _ 7 56 Tryz.underlying27 hi0 hz0 hz1 hz2 rfl (by decide) (by decide) B _ nq (mks (mkMatch m) nq) rfl (by have := I7.out.ow; rw [HNQ.out] at this; exact owR_below this ((Below.refl _ _).alloc (Nat.le_refl _) _)) _ (mkMatch m) rfl rfl (cells_newC _ (mkMatch m) _) (by intro u hu; simp only [mkMatch, List.mem_cons, List.not_mem_nil, or_false] at hu; rcases hu with rfl | rfl | rfl | rfl | rfl | rfl | rfl <;> rfl) (by have := HNQ.out; omega) (by have := Z7.out; simp; omega) ?_; intro v8 w8 O8 D8; have I8 := hide ((I7.out.next (mkMatch_len m) ((Below.refl _ _).alloc (Nat.le_refl _) _)).step (mkMatch_len m) (by rw [HNQ.out]; exact O8) D8); clear O8 D8))
          go_roundg (gk - 1)
          case measure => have := HQ.out; omega
          case rel => exact ⟨q + 1, by have := HQ.out; omega, by go_num, I8.out⟩
        · obtain rfl : q = 40 := by omega
          have dq : decide (40 < 40) = false := by simp
          have hB := HBK.out _ hin.fr
          obtain ⟨r', cap', hv', _, _, _, s0, s1, s2, ss⟩ := HAT.out _ hB
          injection hv' with hv1 hv2 hv3
          injection hv1 with hv1
          injection hv1 with hv1
          clear hv2
          subst hv1 hv3
          have c2n := hB.co
          rw [Nat.mul_comm] at s0 s1 s2
          have ssk := ss (k * 3 + 1)
          have R9 := hide (HST.out wr _ HIN.out)
          rw [Nat.mul_comm 3 k] at R9
          have HLE2 : Hid ((ks.set k ⟨.slice a1 n c1, .slice a2 (n + 40) c2', m, n⟩).length = N) := by show _ = _; rw [List.length_set]; exact HK.out
          clear hin e0 e1 e2 r0 r1 r2 c2 rs HST HBK HAT hnc hq hB ss
          generalize n + 40 = n4 at *
          go_wp2
          go_roundg (go - 1)
          case measure => have := HKG.out; omega
          case rel => exact ⟨k + 1, _, by have := HKG.out; omega, by go_num, HLE2.out, R9.out⟩
    · have dk : decide (k < N) = false := by simp; omega
      obtain rfl : k = N := by have := HKG.out; omega
      have hr : Hid (∃ ks : List Hc, ks.length = k ∧ GrMatch W wr B g (.slice av k cv) hs ks ks.length) := ⟨ks, HK.out, by rw [HK.out]; exact G1.out⟩
      clear G1 HK hk HKG HN
      go_wp2
      go_end0
      exact ⟨rfl, hr.out⟩
end Go.Proofs.YteflnicgohjiiaaGreatDoor
/- lookMatch of a Book. -/
namespace Go.Proofs.YteflnicgohjiiaaGreatDoor
open Go.RowKit

set_option maxRecDepth 100000 in
set_option maxHeartbeats 4000000 in
theorem lookMatch_any {W w : World} {B g : Nat} {vb : Value} {hs ks : List Hc} (h : GrMatch W w B g vb hs ks ks.length) (hn : ks.length ≤ 1000000) :
    Calls Tryz.prog 109 #[.pointer (some ⟨g, 0, none⟩)] w fun e w' => e = .returned (.bool true) ∧ Below w.heap.size w w' := by
  have H0 := hide h
  obtain ⟨av, nv, cv, hv⟩ : ∃ a n' c, vb = .slice a n' c := by
    rcases h.bk.row.2 with ⟨e, _⟩ | ⟨r, cap, cur, e, _⟩ <;> exact ⟨_, _, _, e⟩
  have hnv : nv = ks.length := by
    rcases h.bk.row.2 with ⟨e, e2⟩ | ⟨r, cap, cur, e, _⟩
    · rw [hv] at e; cases e; exact e2.symm
    · rw [hv] at e; cases e; rfl
  subst hv hnv
  clear h
  generalize hN : ks.length = N at *
  have HN := hide hN
  clear hN
  go_enter Tryz.func109, Tryz.ntmps109
  go_wp2
  go_loopg [3] N (fun gk i wr => ∃ k : Nat, k + gk = N ∧ i = .int .i64 k ∧ Below w.heap.size w wr)
  case atStart => exact ⟨0, by omega, rfl, Below.refl _ _⟩
  case round =>
    obtain ⟨k, hk, rfl, hbl⟩ := hrel
    have HKG := hide hk
    have G1 := hide (H0.out.next mkMatch_len hbl)
    have B1 := hide hbl
    have c2 := G1.out.bk.co
    clear hbl H0
    by_cases hlt : k < N
    · have hlt' : k < ks.length := by have := HN.out; omega
      obtain ⟨r, cap, hv, hr, _, hcap, r0, r1, r2, rs⟩ := G1.out.bk.at hlt'
      injection hv with hv1 hv2 hv3
      clear hv2
      subst hv1 hv3
      have hkI : (k : Int) < (N : Int) := by omega
      have dk : decide (k < N) = true := by simp; omega
      obtain ⟨hx1, hx2, _⟩ := G1.out.lim _ (List.getElem_mem hlt')
      have hb1 : Below wr.heap.size wr (wr.alloc (.cells #[ks[k].v, ks[k].vl, .int .i64 ks[k].m] 157)) := (Below.refl _ _).alloc (Nat.le_refl _) _
      have hdn := (G1.out.next mkMatch_len hb1).dn k hlt' (by omega)
      have B2 := hide (B1.out.trans (hb1.mono B1.out.size))
      have HM := hide (fun W => isMatch_any ks[k].m hx2 W)
      obtain ⟨d1, d2, _, _⟩ := hdn
      have R1 := hide (owR_rdM d1)
      have R2 := hide d2
      obtain ⟨e0, e1, e2⟩ := boxC wr ks[k].v ks[k].vl (.int .i64 ks[k].m) 157
      clear hb1 d1 d2
      generalize hxk : ks[k] = x at *
      obtain ⟨v, vl, m, L⟩ := x
      simp only at *
      obtain ⟨a2, c2', hv2, hq2⟩ := R1.out.seven
      obtain ⟨a1, c1, hv1, hq1⟩ := R2.out.seven
      subst hv1 hv2
      have HQ1 := hide hq1
      have HQ2 := hide hq2
      generalize hW1 : wr.alloc (.cells #[.slice a1 L c1, .slice a2 (L + 40) c2', .int .i64 m] 157) = W1 at *
      have HW1 := hide hW1
      have hadd : IntKind.i64.wrap ((L : Int) + 40) = ((L + 40 : Nat) : Int) := by rw [IntKind.wrap_i64]; omega
      have hcz : wr.heap.size < W1.heap.size := by rw [← HW1.out]; simp
      clear hW1 hxk hq1 hq2 R1 R2
      rw [Nat.mul_comm] at r0 r1 r2
      obtain ⟨go, hgo⟩ : ∃ go, go = gk := ⟨_, rfl⟩
      subst hgo
      clear hk
      go_wp2
      rw [HW1.out]
      clear HW1 G1 HN
      generalize wr.heap.size = c at *
      go_loopg [5] (L + 40) (fun gk j wi => ∃ q : Nat, q + gk = L + 40 ∧ j = .int .i64 q ∧ Below W1.heap.size W1 wi)
      case atStart => exact ⟨0, by omega, rfl, Below.refl _ _⟩
      case round =>
        obtain ⟨q, hq, rfl, hb3⟩ := hrel
        have HQ := hide hq
        have B3 := hide hb3
        have f0 := (hb3.cell (p := ⟨c, 0, none⟩) hcz).trans e0
        have f1 := (hb3.cell (p := ⟨c, 1, none⟩) hcz).trans e1
        have f2 := (hb3.cell (p := ⟨c, 2, none⟩) hcz).trans e2
        by_cases hqt : q < L + 40
        · obtain ⟨p2, rfl, s0, s1, s2, s3, s4, s5, s6⟩ := HQ2.out q hqt
          have dq : decide (q < L + 40) = true := by simp; omega
          have hqI : (q : Int) < ((L + 40 : Nat) : Int) := by omega
          obtain ⟨X, f, hX, hS, hcov⟩ := class_of (fun w' => Below W1.heap.size W1 w') wr.drew B3.out.drew
          have f0' := fun x => ((hS x).cell (p := ⟨c, 0, none⟩) hcz).trans e0
          have f1' := fun x => ((hS x).cell (p := ⟨c, 1, none⟩) hcz).trans e1
          have f2' := fun x => ((hS x).cell (p := ⟨c, 2, none⟩) hcz).trans e2
          have hlt2 := World.block_lt_of_cell? W1 _ s0
          have t0 := fun x => ((hS x).cell (p := ⟨p2, q * 7, none⟩) hlt2).trans s0
          have t1 := fun x => ((hS x).cell (p := ⟨p2, q * 7 + 1, none⟩) hlt2).trans s1
          have t2 := fun x => ((hS x).cell (p := ⟨p2, q * 7 + 2, none⟩) hlt2).trans s2
          have t3 := fun x => ((hS x).cell (p := ⟨p2, q * 7 + 3, none⟩) hlt2).trans s3
          have t4 := fun x => ((hS x).cell (p := ⟨p2, q * 7 + 4, none⟩) hlt2).trans s4
          have t5 := fun x => ((hS x).cell (p := ⟨p2, q * 7 + 5, none⟩) hlt2).trans s5
          have t6 := fun x => ((hS x).cell (p := ⟨p2, q * 7 + 6, none⟩) hlt2).trans s6
          have HC0 : Hid (∃ x, wr.drew = f x) := hcov _ B3.out.drew
          have HNX : Hid (∀ x w', Below (f x).heap.size (f x) w' → ∃ y, w' = f y) := fun x w' hb => hcov w' ((hS x).trans (hb.mono (hS x).size))
          have HSS := hide hS
          clear hcov hS s0 s1 s2 s3 s4 s5 s6 hlt2
          by_cases hql : q < L
          · obtain ⟨p1, rfl, s0, s1, s2, s3, s4, s5, s6⟩ := HQ1.out q hql
            have hlt1 := World.block_lt_of_cell? W1 _ s0
            have t7 := fun x => ((HSS.out x).cell (p := ⟨p1, q * 7, none⟩) hlt1).trans s0
            have t8 := fun x => ((HSS.out x).cell (p := ⟨p1, q * 7 + 1, none⟩) hlt1).trans s1
            have t9 := fun x => ((HSS.out x).cell (p := ⟨p1, q * 7 + 2, none⟩) hlt1).trans s2
            have t10 := fun x => ((HSS.out x).cell (p := ⟨p1, q * 7 + 3, none⟩) hlt1).trans s3
            have t11 := fun x => ((HSS.out x).cell (p := ⟨p1, q * 7 + 4, none⟩) hlt1).trans s4
            have t12 := fun x => ((HSS.out x).cell (p := ⟨p1, q * 7 + 5, none⟩) hlt1).trans s5
            have t13 := fun x => ((HSS.out x).cell (p := ⟨p1, q * 7 + 6, none⟩) hlt1).trans s6
            have dq1 : decide (q < L) = true := by simp; omega
            have hqI1 : (q : Int) < (L : Int) := by omega
            clear s0 s1 s2 s3 s4 s5 s6 hlt1 hb3 e0 e1 e2 r0 r1 r2 c2 rs hq HQ1 HQ2
            go_wp2
            refine wp_region_class f (by kernel_rfl) (by kernel_rfl) HC0.out ?_
            repeat (first
              | go_big_quiet_skip
              | (go_big_quiet_want; go_big_quiet_op; first
                  | go_big_quiet_on
                  | (apply Exists.intro
                     refine ⟨fun _ => ?_, ?_⟩
                     · (go_at_call 189; refine (HM.out _).mono ?_; rintro e' wn ⟨rfl, hb⟩; exact ⟨rfl, HNX.out _ _ hb⟩)
                     go_big_quiet_on)))
            refine wpQuiet_nil ?_
            rintro _ ⟨x, rfl⟩
            go_wp2
            go_roundg (gk - 1)
            case measure => have := HQ.out; omega
            case rel => exact ⟨q + 1, by have := HQ.out; omega, by go_num, HSS.out x⟩
          · have dq1 : decide (q < L) = false := by simp; omega
            clear hb3 e0 e1 e2 r0 r1 r2 c2 rs hq HQ1 HQ2
            go_wp2
            refine wp_region_class f (by kernel_rfl) (by kernel_rfl) HC0.out ?_
            repeat (first
              | go_big_quiet_skip
              | (go_big_quiet_want; go_big_quiet_op; first
                  | go_big_quiet_on
                  | (apply Exists.intro
                     refine ⟨fun _ => ?_, ?_⟩
                     · (go_at_call 189; refine (HM.out _).mono ?_; rintro e' wn ⟨rfl, hb⟩; exact ⟨rfl, HNX.out _ _ hb⟩)
                     go_big_quiet_on)))
            refine wpQuiet_nil ?_
            rintro _ ⟨x, rfl⟩
            go_wp2
            go_roundg (gk - 1)
            case measure => have := HQ.out; omega
            case rel => exact ⟨q + 1, by have := HQ.out; omega, by go_num, HSS.out x⟩
        · have dq : decide (q < L + 40) = false := by simp; omega
          have B4 := hide (B2.out.trans (B3.out.mono B2.out.size))
          clear hb3 e0 e1 e2 r0 r1 r2 c2 rs hq HQ1 HQ2
          go_wp2
          go_roundg (go - 1)
          case measure => have := HKG.out; omega
          case rel => exact ⟨k + 1, by have := HKG.out; omega, by go_num, B4.out⟩
    · have dk : decide (k < N) = false := by simp; omega
      clear G1 HN hk
      go_wp2
      go_ret
      exact ⟨rfl, B1.out⟩
end Go.Proofs.YteflnicgohjiiaaGreatDoor
/- A Book's marks of entries; four cells written into a list that is being filled. -/
namespace Go.Proofs.YteflnicgohjiiaaGreatDoor
open Go.RowKit

def mkEntry (S : Nat → ByteArray) (m : Nat) : List Value := [.slice none 0 0, .int .i64 0, .string (S m), .slice none 0 0]
theorem mkEntry_len (S : Nat → ByteArray) (m : Nat) : (mkEntry S m).length = 4 := rfl
def MarksEntry (S : Nat → ByteArray) (B : Nat) (w0 : World) : Prop := ∀ (m : Nat), m < 1000000000 → ∀ W, Below B w0 W → Calls Tryz.prog 168 #[.int .i64 (m : Int)] W fun e w' => e = .returned (.agg #[.slice none 0 0, .int .i64 0, .string (S m), .slice none 0 0]) ∧ Below W.heap.size W w'
def IsEntry (S : Nat → ByteArray) (B : Nat) (w0 : World) : Prop := ∀ (m : Nat), m < 1000000000 → ∀ W, Below B w0 W → Calls Tryz.prog 198 #[.agg #[.slice none 0 0, .int .i64 0, .string (S m), .slice none 0 0], .int .i64 (m : Int)] W fun e w' => e = .returned (.bool true) ∧ Below W.heap.size W w'
theorem fill4 {et : Nat} {wi : World} {B g n cap q : Nat} {k : List Value} (hk : k.length = 4) (h : ∃ rest, wi.ownsRow B et 4 (.slice (some ⟨g, 0, none⟩) n cap) n (mks k q ++ rest)) (hq : q < n) :
    (∃ r0 r1 r2 r3, wi.cell? ⟨g, q * 4, none⟩ = some r0 ∧ wi.cell? ⟨g, q * 4 + 1, none⟩ = some r1 ∧ wi.cell? ⟨g, q * 4 + 2, none⟩ = some r2 ∧ wi.cell? ⟨g, q * 4 + 3, none⟩ = some r3) ∧
    (∀ j, wi.frozen? ⟨g, j, none⟩ = false) ∧
    ∀ x0 x1 x2 x3, k = [x0, x1, x2, x3] → ∀ W1, Fr (fun b => (Value.slice (some ⟨g, 0, none⟩) n cap).ownBlock = some b) W1 wi → FlInC et 4 k W1 ((((wi.setCell ⟨g, q * 4, none⟩ x0).setCell ⟨g, q * 4 + 1, none⟩ x1).setCell ⟨g, q * 4 + 2, none⟩ x2).setCell ⟨g, q * 4 + 3, none⟩ x3) B (.slice (some ⟨g, 0, none⟩) n cap) n (q + 1) := by
  obtain ⟨rest, h⟩ := h
  have hl := h.1
  rw [List.length_append, mks_length hk] at hl
  obtain ⟨r0, r1, r2, r3, rest', rfl⟩ : ∃ r0 r1 r2 r3 r, rest = r0 :: r1 :: r2 :: r3 :: r := by
    have h7 : 4 ≤ rest.length := by omega
    match rest, h7 with
    | r0 :: r1 :: r2 :: r3 :: r, _ => exact ⟨_, _, _, _, _, rfl⟩
  have hA : q * 4 = (mks k q).length := (mks_length hk q).symm
  have hc : ∀ j, j < 4 → wi.cell? ⟨g, q * 4 + j, none⟩ = (r0 :: r1 :: r2 :: r3 :: rest')[j]? := fun j hj => by
    rw [World.ownsRow.cellAt h (q * 4 + j) (by omega), List.getElem?_append_right (by omega), ← hA, Nat.add_sub_cancel_left]
  refine ⟨⟨r0, r1, r2, r3, hc 0 (by decide), hc 1 (by decide), hc 2 (by decide), hc 3 (by decide)⟩, fun j => World.ownsRow.frozenAt h j, fun x0 x1 x2 x3 hx W1 hfr => ⟨⟨rest', ?_⟩, (((hfr.set ⟨g, q * 4, none⟩ x0 rfl).set ⟨g, q * 4 + 1, none⟩ x1 rfl).set ⟨g, q * 4 + 2, none⟩ x2 rfl).set ⟨g, q * 4 + 3, none⟩ x3 rfl⟩⟩
  have h1 := (World.ownsRow.stored (World.ownsRow.stored (World.ownsRow.stored (World.ownsRow.stored h (q * 4) x0).1 (q * 4 + 1) x1).1 (q * 4 + 2) x2).1 (q * 4 + 3) x3).1
  have e : ((((mks k q ++ r0 :: r1 :: r2 :: r3 :: rest').set (q * 4) x0).set (q * 4 + 1) x1).set (q * 4 + 2) x2).set (q * 4 + 3) x3 = mks k q ++ [x0, x1, x2, x3] ++ rest' := by
    rw [List.set_append_right _ _ (by omega), List.set_append_right _ _ (by omega), List.set_append_right _ _ (by omega), List.set_append_right _ _ (by omega), hA]
    simp
  rw [e] at h1
  rw [mks_snoc, show mks k q ++ k = mks k q ++ [x0, x1, x2, x3] by rw [← hx]]
  exact h1
theorem RdM.four {S : Nat → ByteArray} {m : Nat} {W : World} {v : Value} {n : Nat} (h : RdM 4 W v n (mkEntry S m)) : ∃ a cap, v = .slice a n cap ∧ ∀ q, q < n → ∃ p, a = some ⟨p, 0, none⟩ ∧ W.cell? ⟨p, q * 4, none⟩ = some (.slice none 0 0) ∧ W.cell? ⟨p, q * 4 + 1, none⟩ = some (.int .i64 0) ∧ W.cell? ⟨p, q * 4 + 2, none⟩ = some (.string (S m)) ∧ W.cell? ⟨p, q * 4 + 3, none⟩ = some (.slice none 0 0) := by
  obtain ⟨a, cap, rfl, hc⟩ := h
  refine ⟨a, cap, rfl, fun q hq => ?_⟩
  have hj : ∀ j, j < 4 → q * 4 + j < n * 4 := fun j hj => by omega
  obtain ⟨p, rfl, _⟩ := hc (q * 4) (by omega)
  have hg : ∀ j, j < 4 → W.cell? ⟨p, q * 4 + j, none⟩ = (mkEntry S m)[j]? := fun j hj6 => by
    obtain ⟨p', e, h'⟩ := hc (q * 4 + j) (hj j hj6)
    injection e with e
    injection e with e
    subst e
    rw [h', mks_get (mkEntry_len S m) hq hj6]
  exact ⟨p, rfl, hg 0 (by decide), hg 1 (by decide), hg 2 (by decide), hg 3 (by decide)⟩
end Go.Proofs.YteflnicgohjiiaaGreatDoor
