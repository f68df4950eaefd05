/- Pieces of the proof: BgHf. -/
import Derived.Test.YtclhmggnkhnnlaaGreatDoorM43
import Derived.Test.YtclhmggnkhnnlaaGreatDoorM12
/- growEffect of a Book. -/
namespace Go.Proofs.YtclhmggnkhnnlaaGreatDoor
open Go.RowKit

theorem Tryz.infoBEffect : (Tryz.prog.info? 95).map (fun i => (i.zero, i.size, i.bytes)) = some (some (.agg #[.int .u8 0, .string ⟨#[]⟩, .int .i64 0, .int .i64 0, .int .u64 0, .int .u64 0, .slice none 0 0, .int .i64 0, .string ⟨#[]⟩, .int .i64 0]), 10, 112) := by kernel_rfl
abbrev GrEffect (W wr : World) (B g : Nat) (vb : Value) (hs ks : List Hc) (k : Nat) : Prop := GrC 260 25 95 10 mkEffect W wr B g vb hs ks k
set_option maxRecDepth 100000 in
set_option maxHeartbeats 2000000 in
theorem growEffect_any {W : World} {B g : Nat} {vb : Value} {hs : List Hc} (h : GrEffect W W B g vb hs hs 0) (hn : hs.length ≤ 1000000) :
    Calls Tryz.prog 89 #[.pointer (some ⟨g, 0, none⟩)] W fun e W' => e = .returned (.tuple #[]) ∧ ∃ ks, ks.length = hs.length ∧ GrEffect W W' B g vb hs ks ks.length := by
  have H0 := hide h
  have HBB : Hid (B ≤ W.heap.size) := by have := h.bk.gB; have := h.bk.lt; show _ ≤ _; omega
  obtain ⟨i0, hi0, hz0, hz1, hz2⟩ := info_parts Tryz.infoBEffect
  obtain ⟨av, nv, cv, hv⟩ : ∃ a n' c, vb = .slice a n' c := by
    rcases h.bk.row.2 with ⟨e, _⟩ | ⟨r, cap, cur, e, _⟩ <;> exact ⟨_, _, _, e⟩
  have hnv : nv = hs.length := by
    rcases h.bk.row.2 with ⟨e, e2⟩ | ⟨r, cap, cur, e, _⟩
    · rw [hv] at e; cases e; exact e2.symm
    · rw [hv] at e; cases e; rfl
  subst hv hnv
  clear h
  generalize hN : hs.length = N at *
  have HN := hide hN
  clear hN
  go_enter Tryz.func89, Tryz.ntmps89
  go_wp2
  go_loopg [2] N (fun gk i wr => ∃ (k : Nat) (ks : List Hc), k + gk = N ∧ i = .int .i64 k ∧ ks.length = N ∧ GrEffect W wr B g (.slice av N cv) hs ks k)
  case atStart => exact ⟨0, hs, by omega, rfl, HN.out, H0.out⟩
  case round =>
    obtain ⟨k, ks, hk, rfl, hksl, hG⟩ := hrel
    have HK := hide hksl
    have HKG := hide hk
    have G1 := hide hG
    have c2 := hG.bk.co
    clear hG H0 hksl
    by_cases hlt : k < N
    · have hlt' : k < ks.length := by have := HK.out; omega
      obtain ⟨r, cap, hv, hr, _, hcap, r0, r1, r2, rs⟩ := G1.out.bk.at hlt'
      injection hv with hv1 hv2 hv3
      clear hv2
      subst hv1 hv3
      have hkI : (k : Int) < (N : Int) := by omega
      have dk : decide (k < N) = true := by simp; omega
      have hlim := G1.out.lim _ (List.getElem_mem hlt')
      have hown := G1.out.td k hlt' (Nat.le_refl _)
      have hb1 : Below wr.heap.size wr (wr.alloc (.cells #[ks[k].v, ks[k].vl, .int .i64 ks[k].m] 260)) := (Below.refl _ _).alloc (Nat.le_refl _) _
      have G2 := hide (G1.out.next mkEffect_len hb1)
      have HZ : Hid (B ≤ (wr.alloc (.cells #[ks[k].v, ks[k].vl, .int .i64 ks[k].m] 260)).heap.size) := by have := G1.out.bk.gB; have := G1.out.bk.lt; have := hb1.size; show _ ≤ _; omega
      have hsep := G1.out.sep
      have HBK := hide (fun (wi : World) (hf : Fr (fun b => ks[k].v.ownBlock = some b) _ wi) => (G2.out.bk.fr hf (hsep.g _ (List.getElem_mem hlt')) (fun b hb e => hsep.b _ (List.getElem_mem hlt') b e hb)))
      have HST := hide (fun (wi : World) (lv : Value) => G2.out.step mkEffect_len (wi := wi) (lv := lv) HK.out hlt')
      have HM := hide (fun W => markEffect_any ks[k].m hlim.2.1 W)
      have HI : Hid (GInC 95 10 (mkEffect ks[k].m) _ _ B ks[k].v ks[k].v ks[k].n 0) := ⟨owR_below hown hb1, owR_rdM (owR_below hown hb1), Fr.refl _ _, fun b hb => .inl hb⟩
      have hnc : ¬ ks[k].v.ownBlock = some wr.heap.size := fun e => by have := (World.ownsRow.lt hown _ e).2; omega
      have hsz := hb1.size
      obtain ⟨e0, e1, e2⟩ := boxC wr ks[k].v ks[k].vl (.int .i64 ks[k].m) 260
      have HAT := hide (fun (w' : World) (hb : GB 260 25 w' B g (.slice (some ⟨r, 0, none⟩) N cv) ks) => hb.at hlt')
      have hsl := owR_shape hown
      obtain ⟨hx1, hx2, hx3⟩ := hlim
      replace hx1 : _ ≤ 100000000 := hx1
      clear hb1 hsep hown
      generalize hxk : ks[k] = x at *
      obtain ⟨v, vl, m, n⟩ := x
      simp only at *
      obtain ⟨a1, c1, hv1⟩ := hsl
      obtain ⟨al, nl, cl, hvl⟩ := hx3
      subst hv1 hvl
      generalize hW1 : wr.alloc (.cells #[.slice a1 n c1, .slice al nl cl, .int .i64 m] 260) = W1 at *
      have HW1 := hide hW1
      have HNC := hide hnc
      have HSZ := hide hsz
      clear hW1 hxk hsz
      rw [Nat.mul_comm] at r0 r1 r2
      obtain ⟨go, hgo⟩ : ∃ go, go = gk := ⟨_, rfl⟩
      subst hgo
      clear hk
      go_wp2
      rw [HW1.out]
      clear HW1 G1 G2
      generalize wr.heap.size = c at *
      go_loopg [4, 5] 40 (fun gk lv j wi => ∃ q : Nat, q + gk = 40 ∧ j = .int .i64 q ∧ GInC 95 10 (mkEffect m) W1 wi B (.slice a1 n c1) lv n q)
      case atStart => exact ⟨0, by omega, rfl, HI.out⟩
      case round =>
        obtain ⟨q, hq, rfl, hin⟩ := hrel
        have HIN := hide hin
        obtain ⟨a2, c2', hv2⟩ := owR_shape hin.ow
        subst hv2
        have f2 := hin.fr.cell e2 HNC.out
        have HQ := hide hq
        by_cases hqt : q < 40
        · have hqI : (q : Int) < 40 := by omega
          have dq : decide (q < 40) = true := by simp; omega
          have Z3 : Hid (B ≤ wr.heap.size) := Nat.le_trans HZ.out hin.fr.size
          clear hin e0 e1 e2 r0 r1 r2 c2 rs HST HBK HAT hnc hq
          generalize hnq : n + q = nq at *
          have HNQ := hide hnq
          clear hnq
          go_wp2_with (first
            | (go_at_call 165; refine (HM.out _).mono ?_; rintro e w7 ⟨rfl, hb7⟩; have I7 := hide (HIN.out.next (mkEffect_len m) hb7); have Z7 : Hid (B ≤ w7.heap.size) := Nat.le_trans Z3.out hb7.size; clear hb7)
            | (at_builtin; refine wpList_appC rfl _ _ 25 rfl 95 i0 _ 10 112 Tryz.underlying25 hi0 hz0 hz1 hz2 rfl (by decide) (by decide) B _ nq (mks (mkEffect m) nq) rfl (by have := I7.out.ow; rw [HNQ.out] at this; exact owR_below this ((Below.refl _ _).alloc (Nat.le_refl _) _)) _ (mkEffect m) rfl rfl (cells_newC _ (mkEffect m) _) (by intro u hu; simp only [mkEffect, List.mem_cons, List.not_mem_nil, or_false] at hu; rcases hu with rfl | rfl | rfl | rfl | rfl | rfl | rfl | rfl | rfl | rfl <;> rfl) (by have := HNQ.out; omega) (by have := Z7.out; simp; omega) ?_; intro v8 w8 O8 D8; have I8 := hide ((I7.out.next (mkEffect_len m) ((Below.refl _ _).alloc (Nat.le_refl _) _)).step (mkEffect_len m) (by rw [HNQ.out]; exact O8) D8); clear O8 D8))
          go_roundg (gk - 1)
          case measure => have := HQ.out; omega
          case rel => exact ⟨q + 1, by have := HQ.out; omega, by go_num, I8.out⟩
        · obtain rfl : q = 40 := by omega
          have dq : decide (40 < 40) = false := by simp
          have hB := HBK.out _ hin.fr
          obtain ⟨r', cap', hv', _, _, _, s0, s1, s2, ss⟩ := HAT.out _ hB
          injection hv' with hv1 hv2 hv3
          injection hv1 with hv1
          injection hv1 with hv1
          clear hv2
          subst hv1 hv3
          have c2n := hB.co
          rw [Nat.mul_comm] at s0 s1 s2
          have ssk := ss (k * 3 + 1)
          have R9 := hide (HST.out wr _ HIN.out)
          rw [Nat.mul_comm 3 k] at R9
          have HLE2 : Hid ((ks.set k ⟨.slice a1 n c1, .slice a2 (n + 40) c2', m, n⟩).length = N) := by show _ = _; rw [List.length_set]; exact HK.out
          clear hin e0 e1 e2 r0 r1 r2 c2 rs HST HBK HAT hnc hq hB ss
          generalize n + 40 = n4 at *
          go_wp2
          go_roundg (go - 1)
          case measure => have := HKG.out; omega
          case rel => exact ⟨k + 1, _, by have := HKG.out; omega, by go_num, HLE2.out, R9.out⟩
    · have dk : decide (k < N) = false := by simp; omega
      obtain rfl : k = N := by have := HKG.out; omega
      have hr : Hid (∃ ks : List Hc, ks.length = k ∧ GrEffect W wr B g (.slice av k cv) hs ks ks.length) := ⟨ks, HK.out, by rw [HK.out]; exact G1.out⟩
      clear G1 HK hk HKG HN
      go_wp2
      go_end0
      exact ⟨rfl, hr.out⟩
end Go.Proofs.YtclhmggnkhnnlaaGreatDoor
