/- Pieces of the proof: BgFe, BgHe. -/
import Derived.Test.YteflnicgohjiiaaGreatDoorM28
import Derived.RegionTactic
import Derived.Deep.LoopGhost
import Derived.Test.YteflnicgohjiiaaGreatDoorM26
/- fillEntry of a Book. -/
namespace Go.Proofs.YteflnicgohjiiaaGreatDoor
open Go.RowKit

abbrev FlEntry (S : Nat → ByteArray) (W wr : World) (B g : Nat) (vb : Value) (hs : List Hc) (k : Nat) : Prop := FlC 121 18 30 4 (mkEntry S) W wr B g vb hs k
set_option maxRecDepth 100000 in
set_option maxHeartbeats 2000000 in
theorem fillEntry_any {S : Nat → ByteArray} {w0 W : World} {B g : Nat} {vb : Value} {hs : List Hc} (HMk : MarksEntry S B w0) (hB : B ≤ w0.heap.size) (hbel : Below B w0 W) (h : FlEntry S W W B g vb hs 0) (s : SepC g vb hs) (hl : ∀ x ∈ hs, x.n ≤ 100000000 ∧ x.m < 1000000000 ∧ ∃ a n c, x.vl = .slice a n c) (hn : hs.length ≤ 1000000) :
    Calls Tryz.prog 58 #[.pointer (some ⟨g, 0, none⟩)] W fun e W' => e = .returned (.tuple #[]) ∧ FlEntry S W W' B g vb hs hs.length := by
  have HMK := hide HMk
  have HBE := hide hbel
  have HBB := hide hB
  have HS := hide s
  have HL := hide hl
  have H0 := hide h
  have HLE : Hid (∀ b, LEc hs b → B ≤ b) := fun b hb => by
    obtain ⟨x, hx, e⟩ := hb
    obtain ⟨j, hj, rfl⟩ := List.getElem_of_mem hx
    obtain ⟨xs, ho⟩ := h.td j hj (Nat.zero_le _)
    exact (World.ownsRow.lt ho b e).1
  obtain ⟨av, nv, cv, hv⟩ : ∃ a n' c, vb = .slice a n' c := by
    rcases h.bk.row.2 with ⟨e, _⟩ | ⟨r, cap, cur, e, _⟩ <;> exact ⟨_, _, _, e⟩
  have hnv : nv = hs.length := by
    rcases h.bk.row.2 with ⟨e, e2⟩ | ⟨r, cap, cur, e, _⟩
    · rw [hv] at e; cases e; exact e2.symm
    · rw [hv] at e; cases e; rfl
  subst hv hnv
  clear s hl h HMk hbel hB
  go_enter Tryz.func58, Tryz.ntmps58
  go_wp2
  go_loopw [2] (fun i wr => ∃ k : Nat, k ≤ hs.length ∧ i = .int .i64 k ∧ FlEntry S W wr B g (.slice av hs.length cv) hs k) (fun i _ => hs.length - (intOf i).toNat)
  case atStart => exact ⟨0, Nat.zero_le _, rfl, H0.out⟩
  case round =>
    obtain ⟨k, hk, rfl, hF⟩ := hrel
    have F1 := hide hF
    have c2 := hF.bk.co
    have BW : Hid (Below B w0 wr) := HBE.out.trans (hF.fr.below HLE.out (Nat.le_trans HBB.out HBE.out.size))
    clear hF H0
    by_cases hlt : k < hs.length
    · obtain ⟨r, cap, hv, hr, _, hcap, r0, r1, r2, rs⟩ := F1.out.bk.at hlt
      injection hv with hv1 _ hv3
      subst hv1 hv3
      have hkI : (k : Int) < (hs.length : Int) := by omega
      have dk : decide (k < hs.length) = true := by simp; omega
      have hb1 : Below wr.heap.size wr (wr.alloc (.cells #[hs[k].v, hs[k].vl, .int .i64 hs[k].m] 121)) := (Below.refl _ _).alloc (Nat.le_refl _) _
      have F2 := hide (F1.out.next hb1)
      have B2 : Hid (Below B w0 (wr.alloc (.cells #[hs[k].v, hs[k].vl, .int .i64 hs[k].m] 121))) := BW.out.trans (hb1.mono (Nat.le_trans HBB.out BW.out.size))
      have hm := (HL.out _ (List.getElem_mem hlt))
      have HM := hide (HMK.out hs[k].m hm.2.1)
      have HST := hide (fun (w' : World) => F2.out.step (w' := w') HS.out hlt)
      obtain ⟨xo, hold⟩ := F1.out.td k hlt (Nat.le_refl _)
      obtain ⟨xs2, ho⟩ := F2.out.td k hlt (Nat.le_refl _)
      have hvB : Hid (∀ b, hs[k].v.ownBlock = some b → B ≤ b) := fun b e => (World.ownsRow.lt hold b e).1
      obtain ⟨e0, e1, e2⟩ := boxC wr hs[k].v hs[k].vl (.int .i64 hs[k].m) 121
      clear c2 hb1 HL HS
      generalize hs[k] = x at *
      obtain ⟨v, vl, m, n⟩ := x
      simp only at *
      obtain ⟨hm1, hm2, al, nl, cl, hvl⟩ := hm
      subst hvl
      obtain ⟨a1, c1, hv1⟩ := owR_shape ho
      subst hv1
      have hnc : ¬ (Value.slice a1 n c1).ownBlock = some wr.heap.size := fun e => by have := (World.ownsRow.lt hold _ e).2; omega
      have HO : Hid (FlInC 30 4 (mkEntry S m) _ _ B (.slice a1 n c1) n 0) := ⟨⟨xs2, ho⟩, Fr.refl _ _⟩
      generalize hW1 : wr.alloc (.cells #[.slice a1 n c1, .slice al nl cl, .int .i64 m] 121) = W1 at *
      have HW1 := hide hW1
      have HZ : Hid (B ≤ W1.heap.size) := Nat.le_trans HBB.out B2.out.size
      have c2 := F1.out.bk.co
      clear ho hold hW1
      rw [Nat.mul_comm] at r0 r1 r2
      go_wp2
      rw [HW1.out]
      clear HW1
      generalize wr.heap.size = c at *
      go_loopg [4] n (fun gk j wi => ∃ q : Nat, q + gk = n ∧ j = .int .i64 q ∧ FlInC 30 4 (mkEntry S m) W1 wi B (.slice a1 n c1) n q)
      case atStart => exact ⟨0, by omega, rfl, HO.out⟩
      case round =>
        obtain ⟨q, hq, rfl, hin⟩ := hrel
        have hf := hin.fr
        have f0 := hf.cell e0 hnc
        have f2 := hf.cell e2 hnc
        have O2 := hide hin.ow
        have F3 := hide hf
        have B3 : Hid (Below B w0 wr) := B2.out.trans (hf.below hvB.out HZ.out)
        by_cases hqt : q < n
        · obtain ⟨rr, hrr⟩ := hin.ow
          obtain ⟨b, cb, hvb⟩ := owR_some hrr (by omega)
          injection hvb with e3 e4 e5
          clear e4 hrr
          subst e3 e5
          have hqI : (q : Int) < (n : Int) := by omega
          have dq : decide (q < n) = true := by simp; omega
          have HNC := hide hnc
          have hnb : ¬ (b = c) := fun e => HNC.out (by rw [← e]; rfl)
          clear hin hf e0 e1 e2 r0 r1 r2 c2 rs HST HO hnc
          go_wp2
          go_region_with (go_at_call 168; refine (HM.out _ B3.out.drew).mono ?_; rintro e w7 ⟨rfl, hb7⟩; have F7 := hide (F3.out.drew.trans (E' := fun _ => False) (Fr.ofBelow hb7) (fun _ _ e => e.elim)); have f70 := (Fr.ofBelow (E := fun _ => False) hb7).cell f0 (fun e => e); have f72 := (Fr.ofBelow (E := fun _ => False) hb7).cell f2 (fun e => e); obtain ⟨⟨u0, u1, u2, u3, v0, v1, v2, v3⟩, vf, vn⟩ := fill4 (mkEntry_len S m) (O2.out.imp fun _ hx => owR_below (World.ownsRow.drew hx) hb7) hqt; have V0 := vf (q * 4); have V1 := vf (q * 4 + 1); have V2 := vf (q * 4 + 2); have V3 := vf (q * 4 + 3); have VN := hide (vn _ _ _ _ rfl _ F7.out); clear vf vn hb7)
          all_goals
            go_wp2
            go_roundg (gk - 1)
            case measure => omega
            case rel => exact ⟨q + 1, by omega, by go_num, VN.out⟩
        · obtain rfl : q = n := by omega
          have dq : decide (q < q) = false := by simp
          have R5 := hide (HST.out wr F3.out (by obtain ⟨rest, hx⟩ := O2.out; have hl := hx.1; rw [List.length_append, mks_length (mkEntry_len S m)] at hl; have hr : rest = [] := List.length_eq_zero_iff.1 (by omega); rw [hr, List.append_nil] at hx; exact hx))
          clear hin hf e0 e1 e2 r0 r1 r2 c2 rs HST HO hnc O2 F3
          go_wp2
          exact ⟨⟨k + 1, by omega, by go_num, R5.out⟩, by simp [intOf]; omega⟩
    · have dk : decide (k < hs.length) = false := by simp; omega
      obtain rfl : k = hs.length := by omega
      go_wp2
      go_end0
      exact ⟨rfl, F1.out⟩
end Go.Proofs.YteflnicgohjiiaaGreatDoor
/- growEntry of a Book. -/
namespace Go.Proofs.YteflnicgohjiiaaGreatDoor
open Go.RowKit

theorem Tryz.infoBEntry : (Tryz.prog.info? 30).map (fun i => (i.zero, i.size, i.bytes)) = some (some (.agg #[.slice none 0 0, .int .i64 0, .string ⟨#[]⟩, .slice none 0 0]), 4, 72) := by kernel_rfl
abbrev GrEntry (S : Nat → ByteArray) (W wr : World) (B g : Nat) (vb : Value) (hs ks : List Hc) (k : Nat) : Prop := GrC 121 18 30 4 (mkEntry S) W wr B g vb hs ks k
set_option maxRecDepth 100000 in
set_option maxHeartbeats 2000000 in
theorem growEntry_any {S : Nat → ByteArray} {w0 W : World} {B g : Nat} {vb : Value} {hs : List Hc} (HMk : MarksEntry S B w0) (hB : B ≤ w0.heap.size) (hbel : Below B w0 W) (h : GrEntry S W W B g vb hs hs 0) (hn : hs.length ≤ 1000000) :
    Calls Tryz.prog 88 #[.pointer (some ⟨g, 0, none⟩)] W fun e W' => e = .returned (.tuple #[]) ∧ ∃ ks, ks.length = hs.length ∧ GrEntry S W W' B g vb hs ks ks.length := by
  have HMK := hide HMk
  have HBE := hide hbel
  have HBB := hide hB
  have H0 := hide h
  obtain ⟨i0, hi0, hz0, hz1, hz2⟩ := info_parts Tryz.infoBEntry
  have HLE : Hid (∀ b, GEc hs vb b → B ≤ b) := fun b hb => by
    rcases hb with hb | hb
    · obtain ⟨x, hx, e⟩ := hb
      obtain ⟨j, hj, rfl⟩ := List.getElem_of_mem hx
      exact (World.ownsRow.lt (h.td j hj (Nat.zero_le _)) b e).1
    · exact (h.bk.vlt b hb).1
  obtain ⟨av, nv, cv, hv⟩ : ∃ a n' c, vb = .slice a n' c := by
    rcases h.bk.row.2 with ⟨e, _⟩ | ⟨r, cap, cur, e, _⟩ <;> exact ⟨_, _, _, e⟩
  have hnv : nv = hs.length := by
    rcases h.bk.row.2 with ⟨e, e2⟩ | ⟨r, cap, cur, e, _⟩
    · rw [hv] at e; cases e; exact e2.symm
    · rw [hv] at e; cases e; rfl
  subst hv hnv
  clear h HMk hB hbel
  generalize hN : hs.length = N at *
  have HN := hide hN
  clear hN
  go_enter Tryz.func88, Tryz.ntmps88
  go_wp2
  go_loopg [2] N (fun gk i wr => ∃ (k : Nat) (ks : List Hc), k + gk = N ∧ i = .int .i64 k ∧ ks.length = N ∧ GrEntry S W wr B g (.slice av N cv) hs ks k)
  case atStart => exact ⟨0, hs, by omega, rfl, HN.out, H0.out⟩
  case round =>
    obtain ⟨k, ks, hk, rfl, hksl, hG⟩ := hrel
    have HK := hide hksl
    have HKG := hide hk
    have G1 := hide hG
    have c2 := hG.bk.co
    have BW : Hid (Below B w0 wr) := HBE.out.trans (hG.fr.below HLE.out (Nat.le_trans HBB.out HBE.out.size))
    clear hG H0 hksl
    by_cases hlt : k < N
    · have hlt' : k < ks.length := by have := HK.out; omega
      obtain ⟨r, cap, hv, hr, _, hcap, r0, r1, r2, rs⟩ := G1.out.bk.at hlt'
      injection hv with hv1 hv2 hv3
      clear hv2
      subst hv1 hv3
      have hkI : (k : Int) < (N : Int) := by omega
      have dk : decide (k < N) = true := by simp; omega
      have hlim := G1.out.lim _ (List.getElem_mem hlt')
      have hown := G1.out.td k hlt' (Nat.le_refl _)
      have hb1 : Below wr.heap.size wr (wr.alloc (.cells #[ks[k].v, ks[k].vl, .int .i64 ks[k].m] 121)) := (Below.refl _ _).alloc (Nat.le_refl _) _
      have G2 := hide (G1.out.next (mkEntry_len S) hb1)
      have B2 : Hid (Below B w0 (wr.alloc (.cells #[ks[k].v, ks[k].vl, .int .i64 ks[k].m] 121))) := BW.out.trans (hb1.mono (Nat.le_trans HBB.out BW.out.size))
      have hsep := G1.out.sep
      have HBK := hide (fun (wi : World) (hf : Fr (fun b => ks[k].v.ownBlock = some b) _ wi) => (G2.out.bk.fr hf (hsep.g _ (List.getElem_mem hlt')) (fun b hb e => hsep.b _ (List.getElem_mem hlt') b e hb)))
      have HST := hide (fun (wi : World) (lv : Value) => G2.out.step (mkEntry_len S) (wi := wi) (lv := lv) HK.out hlt')
      have HM := hide (HMK.out ks[k].m hlim.2.1)
      have HI : Hid (GInC 30 4 (mkEntry S ks[k].m) _ _ B ks[k].v ks[k].v ks[k].n 0) := ⟨owR_below hown hb1, owR_rdM (owR_below hown hb1), Fr.refl _ _, fun b hb => .inl hb⟩
      have hvB : Hid (∀ b, ks[k].v.ownBlock = some b → B ≤ b) := fun b e => (World.ownsRow.lt hown b e).1
      have hnc : ¬ ks[k].v.ownBlock = some wr.heap.size := fun e => by have := (World.ownsRow.lt hown _ e).2; omega
      have hsz := hb1.size
      have hBW : B ≤ wr.heap.size := by have := G1.out.bk.gB; have := G1.out.bk.lt; omega
      obtain ⟨e0, e1, e2⟩ := boxC wr ks[k].v ks[k].vl (.int .i64 ks[k].m) 121
      have HAT := hide (fun (w' : World) (hb : GB 121 18 w' B g (.slice (some ⟨r, 0, none⟩) N cv) ks) => hb.at hlt')
      have hsl := owR_shape hown
      obtain ⟨hx1, hx2, hx3⟩ := hlim
      clear hb1 hsep hown
      generalize hxk : ks[k] = x at *
      obtain ⟨v, vl, m, n⟩ := x
      simp only at *
      obtain ⟨a1, c1, hv1⟩ := hsl
      obtain ⟨al, nl, cl, hvl⟩ := hx3
      subst hv1 hvl
      generalize hW1 : wr.alloc (.cells #[.slice a1 n c1, .slice al nl cl, .int .i64 m] 121) = W1 at *
      have HW1 := hide hW1
      have HNC := hide hnc
      have HSZ := hide hsz
      have HZ : Hid (B ≤ W1.heap.size) := Nat.le_trans HBB.out B2.out.size
      clear hW1 hxk hsz
      rw [Nat.mul_comm] at r0 r1 r2
      obtain ⟨go, hgo⟩ : ∃ go, go = gk := ⟨_, rfl⟩
      subst hgo
      clear hk
      go_wp2
      rw [HW1.out]
      clear HW1 G1 G2
      generalize wr.heap.size = c at *
      go_loopg [4, 5] 40 (fun gk lv j wi => ∃ q : Nat, q + gk = 40 ∧ j = .int .i64 q ∧ GInC 30 4 (mkEntry S m) W1 wi B (.slice a1 n c1) lv n q)
      case atStart => exact ⟨0, by omega, rfl, HI.out⟩
      case round =>
        obtain ⟨q, hq, rfl, hin⟩ := hrel
        have HIN := hide hin
        obtain ⟨a2, c2', hv2⟩ := owR_shape hin.ow
        subst hv2
        have f2 := hin.fr.cell e2 HNC.out
        have HQ := hide hq
        have B3 : Hid (Below B w0 wr) := B2.out.trans (hin.fr.below hvB.out HZ.out)
        by_cases hqt : q < 40
        · have hqI : (q : Int) < 40 := by omega
          have dq : decide (q < 40) = true := by simp; omega
          clear hin e0 e1 e2 r0 r1 r2 c2 rs HST HBK HAT hnc hq
          generalize hnq : n + q = nq at *
          have HNQ := hide hnq
          clear hnq
          go_wp2_with (first
            | (go_at_call 168; refine (HM.out _ B3.out).mono ?_; rintro e w7 ⟨rfl, hb7⟩; have I7 := hide (HIN.out.next (mkEntry_len S m) hb7); have Z7 : Hid (B ≤ w7.heap.size) := Nat.le_trans (Nat.le_trans HBB.out B3.out.size) hb7.size; clear hb7)
            | (at_builtin; refine wpList_appC rfl _ _ 26 rfl 30 i0 _ 4 72 Tryz.underlying26 hi0 hz0 hz1 hz2 rfl (by decide) (by decide) B _ nq (mks (mkEntry S m) nq) rfl (by have := I7.out.ow; rw [HNQ.out] at this; exact owR_below this ((Below.refl _ _).alloc (Nat.le_refl _) _)) _ (mkEntry S m) rfl rfl (cells_newC _ (mkEntry S m) _) (by intro u hu; simp [mkEntry] at hu; rcases hu with rfl | rfl | rfl | rfl <;> rfl) (by have := HNQ.out; omega) (by have := Z7.out; simp; omega) ?_; intro v8 w8 O8 D8; have I8 := hide ((I7.out.next (mkEntry_len S m) ((Below.refl _ _).alloc (Nat.le_refl _) _)).step (mkEntry_len S m) (by rw [HNQ.out]; exact O8) D8); clear O8 D8))
          go_roundg (gk - 1)
          case measure => have := HQ.out; omega
          case rel => exact ⟨q + 1, by have := HQ.out; omega, by go_num, I8.out⟩
        · obtain rfl : q = 40 := by omega
          have dq : decide (40 < 40) = false := by simp
          have hB := HBK.out _ hin.fr
          obtain ⟨r', cap', hv', _, _, _, s0, s1, s2, ss⟩ := HAT.out _ hB
          injection hv' with hv1 hv2 hv3
          injection hv1 with hv1
          injection hv1 with hv1
          clear hv2
          subst hv1 hv3
          have c2n := hB.co
          rw [Nat.mul_comm] at s0 s1 s2
          have ssk := ss (k * 3 + 1)
          have R9 := hide (HST.out wr _ HIN.out)
          rw [Nat.mul_comm 3 k] at R9
          have HLE2 : Hid ((ks.set k ⟨.slice a1 n c1, .slice a2 (n + 40) c2', m, n⟩).length = N) := by show _ = _; rw [List.length_set]; exact HK.out
          clear hin e0 e1 e2 r0 r1 r2 c2 rs HST HBK HAT hnc hq hB ss
          generalize n + 40 = n4 at *
          go_wp2
          go_roundg (go - 1)
          case measure => have := HKG.out; omega
          case rel => exact ⟨k + 1, _, by have := HKG.out; omega, by go_num, HLE2.out, R9.out⟩
    · have dk : decide (k < N) = false := by simp; omega
      obtain rfl : k = N := by have := HKG.out; omega
      have hr : Hid (∃ ks : List Hc, ks.length = k ∧ GrEntry S W wr B g (.slice av k cv) hs ks ks.length) := ⟨ks, HK.out, by rw [HK.out]; exact G1.out⟩
      clear G1 HK hk HKG HN
      go_wp2
      go_end0
      exact ⟨rfl, hr.out⟩
end Go.Proofs.YteflnicgohjiiaaGreatDoor
