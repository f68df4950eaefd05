/- Pieces of the proof: BgLf, BgPf. -/
import Derived.Test.YtclhmggnkhnnlaaGreatDoorM44
import Derived.Test.YtclhmggnkhnnlaaGreatDoorM39
import Derived.Test.YtclhmggnkhnnlaaGreatDoorM26
/- lookEffect of a Book. -/
namespace Go.Proofs.YtclhmggnkhnnlaaGreatDoor
open Go.RowKit

set_option maxRecDepth 100000 in
set_option maxHeartbeats 4000000 in
theorem lookEffect_any {W w : World} {B g : Nat} {vb : Value} {hs ks : List Hc} (h : GrEffect W w B g vb hs ks ks.length) (hn : ks.length ≤ 1000000) :
    Calls Tryz.prog 119 #[.pointer (some ⟨g, 0, none⟩)] w fun e w' => e = .returned (.bool true) ∧ Below w.heap.size w w' := by
  have H0 := hide h
  obtain ⟨av, nv, cv, hv⟩ : ∃ a n' c, vb = .slice a n' c := by
    rcases h.bk.row.2 with ⟨e, _⟩ | ⟨r, cap, cur, e, _⟩ <;> exact ⟨_, _, _, e⟩
  have hnv : nv = ks.length := by
    rcases h.bk.row.2 with ⟨e, e2⟩ | ⟨r, cap, cur, e, _⟩
    · rw [hv] at e; cases e; exact e2.symm
    · rw [hv] at e; cases e; rfl
  subst hv hnv
  clear h
  generalize hN : ks.length = N at *
  have HN := hide hN
  clear hN
  go_enter Tryz.func119, Tryz.ntmps119
  go_wp2
  go_loopg [3] N (fun gk i wr => ∃ k : Nat, k + gk = N ∧ i = .int .i64 k ∧ Below w.heap.size w wr)
  case atStart => exact ⟨0, by omega, rfl, Below.refl _ _⟩
  case round =>
    obtain ⟨k, hk, rfl, hbl⟩ := hrel
    have HKG := hide hk
    have G1 := hide (H0.out.next mkEffect_len hbl)
    have B1 := hide hbl
    have c2 := G1.out.bk.co
    clear hbl H0
    by_cases hlt : k < N
    · have hlt' : k < ks.length := by have := HN.out; omega
      obtain ⟨r, cap, hv, hr, _, hcap, r0, r1, r2, rs⟩ := G1.out.bk.at hlt'
      injection hv with hv1 hv2 hv3
      clear hv2
      subst hv1 hv3
      have hkI : (k : Int) < (N : Int) := by omega
      have dk : decide (k < N) = true := by simp; omega
      obtain ⟨hx1, hx2, _⟩ := G1.out.lim _ (List.getElem_mem hlt')
      replace hx1 : _ ≤ 100000000 := hx1
      have hb1 : Below wr.heap.size wr (wr.alloc (.cells #[ks[k].v, ks[k].vl, .int .i64 ks[k].m] 260)) := (Below.refl _ _).alloc (Nat.le_refl _) _
      have hdn := (G1.out.next mkEffect_len hb1).dn k hlt' (by omega)
      have B2 := hide (B1.out.trans (hb1.mono B1.out.size))
      have HM := hide (fun W => isEffect_any ks[k].m hx2 W)
      obtain ⟨d1, d2, _, _⟩ := hdn
      have R1 := hide (owR_rdM d1)
      have R2 := hide d2
      obtain ⟨e0, e1, e2⟩ := boxC wr ks[k].v ks[k].vl (.int .i64 ks[k].m) 260
      clear hb1 d1 d2
      generalize hxk : ks[k] = x at *
      obtain ⟨v, vl, m, L⟩ := x
      simp only at *
      obtain ⟨a2, c2', hv2, hq2⟩ := R1.out.asEffect
      obtain ⟨a1, c1, hv1, hq1⟩ := R2.out.asEffect
      subst hv1 hv2
      have HQ1 := hide hq1
      have HQ2 := hide hq2
      generalize hW1 : wr.alloc (.cells #[.slice a1 L c1, .slice a2 (L + 40) c2', .int .i64 m] 260) = W1 at *
      have HW1 := hide hW1
      have hadd : IntKind.i64.wrap ((L : Int) + 40) = ((L + 40 : Nat) : Int) := by rw [IntKind.wrap_i64]; omega
      have hcz : wr.heap.size < W1.heap.size := by rw [← HW1.out]; simp
      clear hW1 hxk hq1 hq2 R1 R2
      rw [Nat.mul_comm] at r0 r1 r2
      obtain ⟨go, hgo⟩ : ∃ go, go = gk := ⟨_, rfl⟩
      subst hgo
      clear hk
      go_wp2
      rw [HW1.out]
      clear HW1 G1 HN
      generalize wr.heap.size = c at *
      go_loopg [5] (L + 40) (fun gk j wi => ∃ q : Nat, q + gk = L + 40 ∧ j = .int .i64 q ∧ Below W1.heap.size W1 wi)
      case atStart => exact ⟨0, by omega, rfl, Below.refl _ _⟩
      case round =>
        obtain ⟨q, hq, rfl, hb3⟩ := hrel
        have HQ := hide hq
        have B3 := hide hb3
        have f0 := (hb3.cell (p := ⟨c, 0, none⟩) hcz).trans e0
        have f1 := (hb3.cell (p := ⟨c, 1, none⟩) hcz).trans e1
        have f2 := (hb3.cell (p := ⟨c, 2, none⟩) hcz).trans e2
        by_cases hqt : q < L + 40
        · obtain ⟨p2, rfl, s0, s1, s2, s3, s4, s5, s6, s7, s8, s9⟩ := HQ2.out q hqt
          have dq : decide (q < L + 40) = true := by simp; omega
          have hqI : (q : Int) < ((L + 40 : Nat) : Int) := by omega
          obtain ⟨X, f, hX, hS, hcov⟩ := class_of (fun w' => Below W1.heap.size W1 w') wr.drew B3.out.drew
          have f0' := fun x => ((hS x).cell (p := ⟨c, 0, none⟩) hcz).trans e0
          have f1' := fun x => ((hS x).cell (p := ⟨c, 1, none⟩) hcz).trans e1
          have f2' := fun x => ((hS x).cell (p := ⟨c, 2, none⟩) hcz).trans e2
          have hlt2 := World.block_lt_of_cell? W1 _ s0
          have t0 := fun x => ((hS x).cell (p := ⟨p2, q * 10, none⟩) hlt2).trans s0
          have t1 := fun x => ((hS x).cell (p := ⟨p2, q * 10 + 1, none⟩) hlt2).trans s1
          have t2 := fun x => ((hS x).cell (p := ⟨p2, q * 10 + 2, none⟩) hlt2).trans s2
          have t3 := fun x => ((hS x).cell (p := ⟨p2, q * 10 + 3, none⟩) hlt2).trans s3
          have t4 := fun x => ((hS x).cell (p := ⟨p2, q * 10 + 4, none⟩) hlt2).trans s4
          have t5 := fun x => ((hS x).cell (p := ⟨p2, q * 10 + 5, none⟩) hlt2).trans s5
          have t6 := fun x => ((hS x).cell (p := ⟨p2, q * 10 + 6, none⟩) hlt2).trans s6
          have t7 := fun x => ((hS x).cell (p := ⟨p2, q * 10 + 7, none⟩) hlt2).trans s7
          have t8 := fun x => ((hS x).cell (p := ⟨p2, q * 10 + 8, none⟩) hlt2).trans s8
          have t9 := fun x => ((hS x).cell (p := ⟨p2, q * 10 + 9, none⟩) hlt2).trans s9
          have HC0 : Hid (∃ x, wr.drew = f x) := hcov _ B3.out.drew
          have HNX : Hid (∀ x w', Below (f x).heap.size (f x) w' → ∃ y, w' = f y) := fun x w' hb => hcov w' ((hS x).trans (hb.mono (hS x).size))
          have HSS := hide hS
          clear hcov hS s0 s1 s2 s3 s4 s5 s6 s7 s8 s9 hlt2
          by_cases hql : q < L
          · obtain ⟨p1, rfl, s0, s1, s2, s3, s4, s5, s6, s7, s8, s9⟩ := HQ1.out q hql
            have hlt1 := World.block_lt_of_cell? W1 _ s0
            have t10 := fun x => ((HSS.out x).cell (p := ⟨p1, q * 10, none⟩) hlt1).trans s0
            have t11 := fun x => ((HSS.out x).cell (p := ⟨p1, q * 10 + 1, none⟩) hlt1).trans s1
            have t12 := fun x => ((HSS.out x).cell (p := ⟨p1, q * 10 + 2, none⟩) hlt1).trans s2
            have t13 := fun x => ((HSS.out x).cell (p := ⟨p1, q * 10 + 3, none⟩) hlt1).trans s3
            have t14 := fun x => ((HSS.out x).cell (p := ⟨p1, q * 10 + 4, none⟩) hlt1).trans s4
            have t15 := fun x => ((HSS.out x).cell (p := ⟨p1, q * 10 + 5, none⟩) hlt1).trans s5
            have t16 := fun x => ((HSS.out x).cell (p := ⟨p1, q * 10 + 6, none⟩) hlt1).trans s6
            have t17 := fun x => ((HSS.out x).cell (p := ⟨p1, q * 10 + 7, none⟩) hlt1).trans s7
            have t18 := fun x => ((HSS.out x).cell (p := ⟨p1, q * 10 + 8, none⟩) hlt1).trans s8
            have t19 := fun x => ((HSS.out x).cell (p := ⟨p1, q * 10 + 9, none⟩) hlt1).trans s9
            have dq1 : decide (q < L) = true := by simp; omega
            have hqI1 : (q : Int) < (L : Int) := by omega
            clear s0 s1 s2 s3 s4 s5 s6 s7 s8 s9 hlt1 hb3 e0 e1 e2 r0 r1 r2 c2 rs hq HQ1 HQ2
            go_wp2
            refine wp_region_class f (by kernel_rfl) (by kernel_rfl) HC0.out ?_
            repeat (first
              | go_big_quiet_skip
              | (go_big_quiet_want; go_big_quiet_op; first
                  | go_big_quiet_on
                  | (apply Exists.intro
                     refine ⟨fun _ => ?_, ?_⟩
                     · (go_at_call 195; refine (HM.out _).mono ?_; rintro e' wn ⟨rfl, hb⟩; exact ⟨rfl, HNX.out _ _ hb⟩)
                     go_big_quiet_on)))
            refine wpQuiet_nil ?_
            rintro _ ⟨x, rfl⟩
            go_wp2
            go_roundg (gk - 1)
            case measure => have := HQ.out; omega
            case rel => exact ⟨q + 1, by have := HQ.out; omega, by go_num, HSS.out x⟩
          · have dq1 : decide (q < L) = false := by simp; omega
            clear hb3 e0 e1 e2 r0 r1 r2 c2 rs hq HQ1 HQ2
            go_wp2
            refine wp_region_class f (by kernel_rfl) (by kernel_rfl) HC0.out ?_
            repeat (first
              | go_big_quiet_skip
              | (go_big_quiet_want; go_big_quiet_op; first
                  | go_big_quiet_on
                  | (apply Exists.intro
                     refine ⟨fun _ => ?_, ?_⟩
                     · (go_at_call 195; refine (HM.out _).mono ?_; rintro e' wn ⟨rfl, hb⟩; exact ⟨rfl, HNX.out _ _ hb⟩)
                     go_big_quiet_on)))
            refine wpQuiet_nil ?_
            rintro _ ⟨x, rfl⟩
            go_wp2
            go_roundg (gk - 1)
            case measure => have := HQ.out; omega
            case rel => exact ⟨q + 1, by have := HQ.out; omega, by go_num, HSS.out x⟩
        · have dq : decide (q < L + 40) = false := by simp; omega
          have B4 := hide (B2.out.trans (B3.out.mono B2.out.size))
          clear hb3 e0 e1 e2 r0 r1 r2 c2 rs hq HQ1 HQ2
          go_wp2
          go_roundg (go - 1)
          case measure => have := HKG.out; omega
          case rel => exact ⟨k + 1, by have := HKG.out; omega, by go_num, B4.out⟩
    · have dk : decide (k < N) = false := by simp; omega
      clear G1 HN hk
      go_wp2
      go_ret
      exact ⟨rfl, B1.out⟩
end Go.Proofs.YtclhmggnkhnnlaaGreatDoor
/- keepEffect of a Book. -/
namespace Go.Proofs.YtclhmggnkhnnlaaGreatDoor
open Go.RowKit

theorem Tryz.infoHEffect : (Tryz.prog.info? 260).map (fun i => (i.zero, i.size, i.bytes)) = some (some (.agg #[.slice none 0 0, .slice none 0 0, .int .i64 0]), 3, 56) := by kernel_rfl
theorem step_appHEffect {ops : Array Oper} {o : Oper} {a : Act} {w : World} {K : Act → World → Prop} {Q : Exit → Act → World → Prop} {E : Prop}
    (hg : o.guard = none) (s x : Operand) (hop : o.op = Op.call { callee := Callee.builtin Builtin.append, args := #[s, x], argTypes := #[69, 69] })
    (B : Nat) (vb : Value) (hs : List Hc) (he : a.eval s = vb) (hown : w.ownsRow B 260 3 vb hs.length (flatC hs)) (p : Nat) (h : Hc) (hx : a.eval x = .slice (some ⟨p, 0, none⟩) 1 1) (h1 : h.v.oneCell' = true) (h2 : h.vl.oneCell' = true)
    (hc : w.cell? ⟨p, 0, none⟩ = some h.v ∧ w.cell? ⟨p, 1, none⟩ = some h.vl ∧ w.cell? ⟨p, 2, none⟩ = some (.int .i64 h.m)) (hl : hs.length ≤ 1000000) (hB : B ≤ w.heap.size)
    (hK : ∀ vb' w', w'.ownsRow B 260 3 vb' (hs ++ [h]).length (flatC (hs ++ [h])) → w.grownBy w' vb.ownBlock → (vb'.ownBlock = vb.ownBlock ∨ vb'.ownBlock = some w.heap.size) → K (a.put o.dst vb') w') :
    if Region.wanted o (yielded ops a.tmps) = true then Oper.wp Tryz.prog o a w K Q else E := by
  have hw : Region.wanted o (yielded ops a.tmps) = true := by simp [Region.wanted, hg]
  rw [if_pos hw]
  obtain ⟨i0, hi0, hz0, hz1, hz2⟩ := info_parts Tryz.infoHEffect
  have hsrc : ∀ j u, (flatC [h])[j]? = some u → w.cell? ((⟨p, 0, none⟩ : Addr).add j) = some u := fun j u hu => by
    rw [addC, Nat.zero_add]
    have e : flatC [h] = [h.v, h.vl, .int .i64 h.m] := rfl
    rw [e] at hu
    match j, hu with
    | 0, hu => simp at hu; rw [← hu]; exact hc.1
    | 1, hu => simp at hu; rw [← hu]; exact hc.2.1
    | 2, hu => simp at hu; rw [← hu]; exact hc.2.2
    | j + 3, hu => simp at hu
  have hone : ∀ u ∈ flatC [h], u.oneCell' = true := fun u hu => by
    have e : flatC [h] = [h.v, h.vl, .int .i64 h.m] := rfl
    rw [e] at hu
    simp at hu
    rcases hu with rfl | rfl | rfl
    · exact h1
    · exact h2
    · rfl
  obtain ⟨v', w', hrun, r1, r2, _, r4⟩ := run_append_own_at (P := Tryz.prog) w B 69 o.type 260 i0 (.agg #[.slice none 0 0, .slice none 0 0, .int .i64 0]) 3 56 Tryz.underlying69 hi0 hz0 hz1 hz2 rfl (by decide) vb hs.length (flatC hs) hown ⟨p, 0, none⟩ 1 1 (flatC [h]) rfl hsrc hone (by unfold maxLen; omega) (by omega) hB
  unfold Oper.wp
  simp [execOp, hop, resolve, invoke, builtin, he, hx, hrun, Result.andThen]
  refine hK v' w' ?_ r2 r4
  rw [List.length_append, flatC_append]
  exact r1
set_option maxRecDepth 100000 in
set_option maxHeartbeats 1000000 in
theorem keepEffect_bk {W : World} {B g n : Nat} {vb : Value} {hs : List Hc} (h : GB 260 25 W B g vb hs) (c0 : W.cell? ⟨g, 0, none⟩ = some (.int .i64 (n : Int))) (hl : hs.length ≤ 1000000) (hn : n < 100000000) (a : Option Addr) (m c : Nat) :
    Calls Tryz.prog 140 #[.pointer (some ⟨g, 0, none⟩), .slice a m c] W fun e W' => e = .returned (.tuple #[]) ∧ ∃ vb', KeptC 260 25 W W' B g vb vb' (n + 1) (hs ++ [⟨.slice a m c, .slice none 0 0, n + 1, m⟩]) := by
  have h1 : GB 260 25 (W.setCell ⟨g, 0, none⟩ (.int .i64 ((n : Int) + 1))) B g vb hs := h.num (by decide) _
  have hF1 : Hid (Fr (BEc g vb) W (W.setCell ⟨g, 0, none⟩ (.int .i64 ((n : Int) + 1)))) := (Fr.refl _ W).set _ _ (.inl rfl)
  have HCS : Hid (∀ p, p ≠ 25 → p ≠ 0 → (W.setCell ⟨g, 0, none⟩ (.int .i64 ((n : Int) + 1))).cell? ⟨g, p, none⟩ = W.cell? ⟨g, p, none⟩) := fun p _ hp => World.cell?_setCell_other W _ _ _ (fun e => hp (by injection e with _ e; exact e.symm))
  obtain ⟨av, nv, cv, hv⟩ : ∃ a n' c, vb = .slice a n' c := by
    rcases h.row.2 with ⟨e, _⟩ | ⟨r, cap, cur, e, _⟩ <;> exact ⟨_, _, _, e⟩
  subst hv
  have hw : IntKind.i64.wrap ((n : Int) + 1) = (n : Int) + 1 := by rw [IntKind.wrap_i64]; omega
  have s0 := h.soft 0
  have H1 := hide h1
  have c0' : (W.setCell ⟨g, 0, none⟩ (.int .i64 ((n : Int) + 1))).cell? ⟨g, 0, none⟩ = some (.int .i64 ((n : Int) + 1)) := World.cell?_setCell_same' _ _ _ (by rw [c0]; rfl)
  have c2' := h1.co
  have s2' := h1.soft 25
  clear h h1
  go_enter Tryz.func140, Tryz.ntmps140
  go_wp2
  generalize W.setCell ⟨g, 0, none⟩ (.int .i64 ((n : Int) + 1)) = W0 at *
  have H2 := hide (H1.out.next (((Below.refl _ W0).drew).alloc (Nat.le_refl _) (.cells #[.slice a m c, .slice none 0 0, .int .i64 ((n : Int) + 1)] 260)))
  have HX := hide (boxC W0.drew (.slice a m c) (.slice none 0 0) (.int .i64 ((n : Int) + 1)) 260)
  have HF2 : Hid (Fr (BEc g (.slice av nv cv)) W (W0.drew.alloc (.cells #[.slice a m c, .slice none 0 0, .int .i64 ((n : Int) + 1)] 260))) := hF1.out.drew.alloc _
  have hgl := H1.out.lt
  have HC3 : Hid (∀ p, (W0.drew.alloc (.cells #[.slice a m c, .slice none 0 0, .int .i64 ((n : Int) + 1)] 260)).cell? ⟨g, p, none⟩ = W0.cell? ⟨g, p, none⟩) := fun p => World.cell?_of_block (w := W0) (a := ⟨g, p, none⟩) (((Fr.refl (fun _ => False) W0).drew.alloc _).block g hgl (fun e => e))
  have HC0 := hide c0'
  have HBW : Hid (B ≤ W0.heap.size) := by have := H1.out.gB; show _ ≤ _; omega
  clear hw c0 s0 H1
  go_region_law (refine step_appHEffect rfl _ _ rfl B _ hs rfl H2.out.row _ ⟨.slice a m c, .slice none 0 0, n + 1, m⟩ rfl rfl rfl HX.out hl (by have := HBW.out; simp; omega) ?_; intro v7 w7 O7 G7 K7; obtain ⟨a7, n7, p7, rfl⟩ : ∃ a n' c, v7 = .slice a n' c := (by rcases O7.2 with ⟨e, _⟩ | ⟨r, cap, cur, e, _⟩ <;> exact ⟨_, _, _, e⟩); have L7 := hide (H2.out.lay G7 O7 K7); have c7 := (World.cell?_of_block (a := ⟨g, 25, none⟩) (G7.block g H2.out.lt (fun e => H2.out.ne e.symm))).trans H2.out.co; have s7 := (World.frozen?_of_block (a := ⟨g, 25, none⟩) (G7.block g H2.out.lt (fun e => H2.out.ne e.symm))).trans (H2.out.soft 25); clear O7 G7 K7)
  all_goals
    go_wp2
    go_end0
    refine ⟨rfl, _, L7.out.1, ?_, HF2.out.trans L7.out.2.1 (fun b _ e => e), fun b hb => ?_, fun p h7 h0 => ?_⟩
    · rw [L7.out.2.2.2 0 (by decide), HC3.out]; exact HC0.out
    · rcases L7.out.2.2.1 b hb with e | e
      · exact .inl e
      · exact .inr (Nat.le_trans HF2.out.size e)
    · rw [L7.out.2.2.2 p h7, HC3.out]; exact HCS.out p h7 h0
end Go.Proofs.YtclhmggnkhnnlaaGreatDoor
