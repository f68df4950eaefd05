/- Pieces of the proof: BnLn, BnMm, BnFm. -/
import Derived.Test.YteflnicgohjiiaaGreatDoorM26
import Derived.Test.YteflnicgohjiiaaGreatDoorM6
import Derived.Test.YteflnicgohjiiaaGreatDoorM21
/- lookNumber of a Book. -/
namespace Go.Proofs.YteflnicgohjiiaaGreatDoor
open Go.RowKit

set_option maxRecDepth 100000 in
set_option maxHeartbeats 4000000 in
theorem lookNumber_any {W w : World} {B g : Nat} {vb : Value} {hs ks : List Hc} (h : GrNumber W w B g vb hs ks ks.length) (hn : ks.length ≤ 1000000) :
    Calls Tryz.prog 106 #[.pointer (some ⟨g, 0, none⟩)] w fun e w' => e = .returned (.bool true) ∧ Below w.heap.size w w' := by
  have H0 := hide h
  obtain ⟨av, nv, cv, hv⟩ : ∃ a n' c, vb = .slice a n' c := by
    rcases h.bk.row.2 with ⟨e, _⟩ | ⟨r, cap, cur, e, _⟩ <;> exact ⟨_, _, _, e⟩
  have hnv : nv = ks.length := by
    rcases h.bk.row.2 with ⟨e, e2⟩ | ⟨r, cap, cur, e, _⟩
    · rw [hv] at e; cases e; exact e2.symm
    · rw [hv] at e; cases e; rfl
  subst hv hnv
  clear h
  generalize hN : ks.length = N at *
  have HN := hide hN
  clear hN
  go_enter Tryz.func106, Tryz.ntmps106
  go_wp2
  go_loopg [3] N (fun gk i wr => ∃ k : Nat, k + gk = N ∧ i = .int .i64 k ∧ Below w.heap.size w wr)
  case atStart => exact ⟨0, by omega, rfl, Below.refl _ _⟩
  case round =>
    obtain ⟨k, hk, rfl, hbl⟩ := hrel
    have HKG := hide hk
    have G1 := hide (H0.out.next mkNumber_len hbl)
    have B1 := hide hbl
    have c2 := G1.out.bk.co
    clear hbl H0
    by_cases hlt : k < N
    · have hlt' : k < ks.length := by have := HN.out; omega
      obtain ⟨r, cap, hv, hr, _, hcap, r0, r1, r2, rs⟩ := G1.out.bk.at hlt'
      injection hv with hv1 hv2 hv3
      clear hv2
      subst hv1 hv3
      have hkI : (k : Int) < (N : Int) := by omega
      have dk : decide (k < N) = true := by simp; omega
      obtain ⟨hx1, hx2, _⟩ := G1.out.lim _ (List.getElem_mem hlt')
      have hb1 : Below wr.heap.size wr (wr.alloc (.cells #[ks[k].v, ks[k].vl, .int .i64 ks[k].m] 141)) := (Below.refl _ _).alloc (Nat.le_refl _) _
      have hdn := (G1.out.next mkNumber_len hb1).dn k hlt' (by omega)
      have B2 := hide (B1.out.trans (hb1.mono B1.out.size))
      have HM := hide (fun W => isNumber_any ks[k].m hx2 W)
      obtain ⟨d1, d2, _, _⟩ := hdn
      have R1 := hide (owR_rdM d1)
      have R2 := hide d2
      obtain ⟨e0, e1, e2⟩ := boxC wr ks[k].v ks[k].vl (.int .i64 ks[k].m) 141
      clear hb1 d1 d2
      generalize hxk : ks[k] = x at *
      obtain ⟨v, vl, m, L⟩ := x
      simp only at *
      obtain ⟨a2, c2', hv2, hq2⟩ := R1.out.three
      obtain ⟨a1, c1, hv1, hq1⟩ := R2.out.three
      subst hv1 hv2
      have HQ1 := hide hq1
      have HQ2 := hide hq2
      generalize hW1 : wr.alloc (.cells #[.slice a1 L c1, .slice a2 (L + 40) c2', .int .i64 m] 141) = W1 at *
      have HW1 := hide hW1
      have hadd : IntKind.i64.wrap ((L : Int) + 40) = ((L + 40 : Nat) : Int) := by rw [IntKind.wrap_i64]; omega
      have hcz : wr.heap.size < W1.heap.size := by rw [← HW1.out]; simp
      clear hW1 hxk hq1 hq2 R1 R2
      rw [Nat.mul_comm] at r0 r1 r2
      obtain ⟨go, hgo⟩ : ∃ go, go = gk := ⟨_, rfl⟩
      subst hgo
      clear hk
      go_wp2
      rw [HW1.out]
      clear HW1 G1 HN
      generalize wr.heap.size = c at *
      go_loopg [5] (L + 40) (fun gk j wi => ∃ q : Nat, q + gk = L + 40 ∧ j = .int .i64 q ∧ Below W1.heap.size W1 wi)
      case atStart => exact ⟨0, by omega, rfl, Below.refl _ _⟩
      case round =>
        obtain ⟨q, hq, rfl, hb3⟩ := hrel
        have HQ := hide hq
        have B3 := hide hb3
        have f0 := (hb3.cell (p := ⟨c, 0, none⟩) hcz).trans e0
        have f1 := (hb3.cell (p := ⟨c, 1, none⟩) hcz).trans e1
        have f2 := (hb3.cell (p := ⟨c, 2, none⟩) hcz).trans e2
        by_cases hqt : q < L + 40
        · obtain ⟨p2, rfl, s0, s1, s2⟩ := HQ2.out q hqt
          have dq : decide (q < L + 40) = true := by simp; omega
          have hqI : (q : Int) < ((L + 40 : Nat) : Int) := by omega
          obtain ⟨X, f, hX, hS, hcov⟩ := class_of (fun w' => Below W1.heap.size W1 w') wr.drew B3.out.drew
          have f0' := fun x => ((hS x).cell (p := ⟨c, 0, none⟩) hcz).trans e0
          have f1' := fun x => ((hS x).cell (p := ⟨c, 1, none⟩) hcz).trans e1
          have f2' := fun x => ((hS x).cell (p := ⟨c, 2, none⟩) hcz).trans e2
          have hlt2 := World.block_lt_of_cell? W1 _ s0
          have t0 := fun x => ((hS x).cell (p := ⟨p2, q * 3, none⟩) hlt2).trans s0
          have t1 := fun x => ((hS x).cell (p := ⟨p2, q * 3 + 1, none⟩) hlt2).trans s1
          have t2 := fun x => ((hS x).cell (p := ⟨p2, q * 3 + 2, none⟩) hlt2).trans s2
          have HC0 : Hid (∃ x, wr.drew = f x) := hcov _ B3.out.drew
          have HNX : Hid (∀ x w', Below (f x).heap.size (f x) w' → ∃ y, w' = f y) := fun x w' hb => hcov w' ((hS x).trans (hb.mono (hS x).size))
          have HSS := hide hS
          clear hcov hS s0 s1 s2 hlt2
          by_cases hql : q < L
          · obtain ⟨p1, rfl, s0, s1, s2⟩ := HQ1.out q hql
            have hlt1 := World.block_lt_of_cell? W1 _ s0
            have t6 := fun x => ((HSS.out x).cell (p := ⟨p1, q * 3, none⟩) hlt1).trans s0
            have t7 := fun x => ((HSS.out x).cell (p := ⟨p1, q * 3 + 1, none⟩) hlt1).trans s1
            have t8 := fun x => ((HSS.out x).cell (p := ⟨p1, q * 3 + 2, none⟩) hlt1).trans s2
            have dq1 : decide (q < L) = true := by simp; omega
            have hqI1 : (q : Int) < (L : Int) := by omega
            clear s0 s1 s2 hlt1 hb3 e0 e1 e2 r0 r1 r2 c2 rs hq HQ1 HQ2
            go_wp2
            refine wp_region_class f (by kernel_rfl) (by kernel_rfl) HC0.out ?_
            repeat (first
              | go_big_quiet_skip
              | (go_big_quiet_want; go_big_quiet_op; first
                  | go_big_quiet_on
                  | (apply Exists.intro
                     refine ⟨fun _ => ?_, ?_⟩
                     · (go_at_call 186; refine (HM.out _).mono ?_; rintro e' wn ⟨rfl, hb⟩; exact ⟨rfl, HNX.out _ _ hb⟩)
                     go_big_quiet_on)))
            refine wpQuiet_nil ?_
            rintro _ ⟨x, rfl⟩
            go_wp2
            go_roundg (gk - 1)
            case measure => have := HQ.out; omega
            case rel => exact ⟨q + 1, by have := HQ.out; omega, by go_num, HSS.out x⟩
          · have dq1 : decide (q < L) = false := by simp; omega
            clear hb3 e0 e1 e2 r0 r1 r2 c2 rs hq HQ1 HQ2
            go_wp2
            refine wp_region_class f (by kernel_rfl) (by kernel_rfl) HC0.out ?_
            repeat (first
              | go_big_quiet_skip
              | (go_big_quiet_want; go_big_quiet_op; first
                  | go_big_quiet_on
                  | (apply Exists.intro
                     refine ⟨fun _ => ?_, ?_⟩
                     · (go_at_call 186; refine (HM.out _).mono ?_; rintro e' wn ⟨rfl, hb⟩; exact ⟨rfl, HNX.out _ _ hb⟩)
                     go_big_quiet_on)))
            refine wpQuiet_nil ?_
            rintro _ ⟨x, rfl⟩
            go_wp2
            go_roundg (gk - 1)
            case measure => have := HQ.out; omega
            case rel => exact ⟨q + 1, by have := HQ.out; omega, by go_num, HSS.out x⟩
        · have dq : decide (q < L + 40) = false := by simp; omega
          have B4 := hide (B2.out.trans (B3.out.mono B2.out.size))
          clear hb3 e0 e1 e2 r0 r1 r2 c2 rs hq HQ1 HQ2
          go_wp2
          go_roundg (go - 1)
          case measure => have := HKG.out; omega
          case rel => exact ⟨k + 1, by have := HKG.out; omega, by go_num, B4.out⟩
    · have dk : decide (k < N) = false := by simp; omega
      clear G1 HN hk
      go_wp2
      go_ret
      exact ⟨rfl, B1.out⟩
end Go.Proofs.YteflnicgohjiiaaGreatDoor
/- A Book's marks of matches; seven cells written into a list that is being filled. -/
namespace Go.Proofs.YteflnicgohjiiaaGreatDoor
open Go.RowKit

def mkMatch (m : Nat) : List Value := [.int .i64 0, .int .u64 0, .int .u64 0, .int .i64 0, .int .u64 0, .int .u64 0, .int .i64 (-1000 - (m : Int))]
theorem mkMatch_len (m : Nat) : (mkMatch m).length = 7 := rfl
theorem markMatch_any (m : Nat) (hm : m < 1000000000) (W : World) : Calls Tryz.prog 159 #[.int .i64 (m : Int)] W fun e w' => e = .returned (.agg #[.int .i64 0, .int .u64 0, .int .u64 0, .int .i64 0, .int .u64 0, .int .u64 0, .int .i64 (-1000 - (m : Int))]) ∧ Below W.heap.size W w' := by
  have hw : IntKind.i64.wrap (-1000 - (m : Int)) = -1000 - (m : Int) := by rw [IntKind.wrap_i64]; omega
  go_enter Tryz.func159, Tryz.ntmps159
  go_wp2
  refine bodyPost_ret (v := .agg #[.int .i64 0, .int .u64 0, .int .u64 0, .int .i64 0, .int .u64 0, .int .u64 0, .int .i64 (-1000 - (m : Int))]) (by simp [results, Tryz.results159, go_sem]) rfl ⟨rfl, ?_⟩
  exact (Below.refl _ _).alloc (Nat.le_refl _) _
theorem isMatch_any (m : Nat) (hm : m < 1000000000) (W : World) : Calls Tryz.prog 189 #[.agg #[.int .i64 0, .int .u64 0, .int .u64 0, .int .i64 0, .int .u64 0, .int .u64 0, .int .i64 (-1000 - (m : Int))], .int .i64 (m : Int)] W fun e w' => e = .returned (.bool true) ∧ Below W.heap.size W w' := by
  have hw : IntKind.i64.wrap (-1000 - (m : Int)) = -1000 - (m : Int) := by rw [IntKind.wrap_i64]; omega
  go_enter Tryz.func189, Tryz.ntmps189
  go_wp2
  go_ret
  exact ⟨by first | rfl | simp [hw], (Below.refl _ _).alloc (Nat.le_refl _) _⟩
theorem fill7 {et : Nat} {wi : World} {B g n cap q : Nat} {k : List Value} (hk : k.length = 7) (h : ∃ rest, wi.ownsRow B et 7 (.slice (some ⟨g, 0, none⟩) n cap) n (mks k q ++ rest)) (hq : q < n) :
    (∃ r0 r1 r2 r3 r4 r5 r6, wi.cell? ⟨g, q * 7, none⟩ = some r0 ∧ wi.cell? ⟨g, q * 7 + 1, none⟩ = some r1 ∧ wi.cell? ⟨g, q * 7 + 2, none⟩ = some r2 ∧ wi.cell? ⟨g, q * 7 + 3, none⟩ = some r3 ∧ wi.cell? ⟨g, q * 7 + 4, none⟩ = some r4 ∧ wi.cell? ⟨g, q * 7 + 5, none⟩ = some r5 ∧ wi.cell? ⟨g, q * 7 + 6, none⟩ = some r6) ∧
    (∀ j, wi.frozen? ⟨g, j, none⟩ = false) ∧
    ∀ x0 x1 x2 x3 x4 x5 x6, k = [x0, x1, x2, x3, x4, x5, x6] → ∀ W1, Fr (fun b => (Value.slice (some ⟨g, 0, none⟩) n cap).ownBlock = some b) W1 wi → FlInC et 7 k W1 (((((((wi.setCell ⟨g, q * 7, none⟩ x0).setCell ⟨g, q * 7 + 1, none⟩ x1).setCell ⟨g, q * 7 + 2, none⟩ x2).setCell ⟨g, q * 7 + 3, none⟩ x3).setCell ⟨g, q * 7 + 4, none⟩ x4).setCell ⟨g, q * 7 + 5, none⟩ x5).setCell ⟨g, q * 7 + 6, none⟩ x6) B (.slice (some ⟨g, 0, none⟩) n cap) n (q + 1) := by
  obtain ⟨rest, h⟩ := h
  have hl := h.1
  rw [List.length_append, mks_length hk] at hl
  obtain ⟨r0, r1, r2, r3, r4, r5, r6, rest', rfl⟩ : ∃ r0 r1 r2 r3 r4 r5 r6 r, rest = r0 :: r1 :: r2 :: r3 :: r4 :: r5 :: r6 :: r := by
    have h7 : 7 ≤ rest.length := by omega
    match rest, h7 with
    | r0 :: r1 :: r2 :: r3 :: r4 :: r5 :: r6 :: r, _ => exact ⟨_, _, _, _, _, _, _, _, rfl⟩
  have hA : q * 7 = (mks k q).length := (mks_length hk q).symm
  have hc : ∀ j, j < 7 → wi.cell? ⟨g, q * 7 + j, none⟩ = (r0 :: r1 :: r2 :: r3 :: r4 :: r5 :: r6 :: rest')[j]? := fun j hj => by
    rw [World.ownsRow.cellAt h (q * 7 + j) (by omega), List.getElem?_append_right (by omega), ← hA, Nat.add_sub_cancel_left]
  refine ⟨⟨r0, r1, r2, r3, r4, r5, r6, hc 0 (by decide), hc 1 (by decide), hc 2 (by decide), hc 3 (by decide), hc 4 (by decide), hc 5 (by decide), hc 6 (by decide)⟩, fun j => World.ownsRow.frozenAt h j, fun x0 x1 x2 x3 x4 x5 x6 hx W1 hfr => ⟨⟨rest', ?_⟩, (((((((hfr.set ⟨g, q * 7, none⟩ x0 rfl).set ⟨g, q * 7 + 1, none⟩ x1 rfl).set ⟨g, q * 7 + 2, none⟩ x2 rfl).set ⟨g, q * 7 + 3, none⟩ x3 rfl).set ⟨g, q * 7 + 4, none⟩ x4 rfl).set ⟨g, q * 7 + 5, none⟩ x5 rfl).set ⟨g, q * 7 + 6, none⟩ x6 rfl)⟩⟩
  have h1 := (World.ownsRow.stored (World.ownsRow.stored (World.ownsRow.stored (World.ownsRow.stored (World.ownsRow.stored (World.ownsRow.stored (World.ownsRow.stored h (q * 7) x0).1 (q * 7 + 1) x1).1 (q * 7 + 2) x2).1 (q * 7 + 3) x3).1 (q * 7 + 4) x4).1 (q * 7 + 5) x5).1 (q * 7 + 6) x6).1
  have e : ((((((((mks k q ++ r0 :: r1 :: r2 :: r3 :: r4 :: r5 :: r6 :: rest').set (q * 7) x0).set (q * 7 + 1) x1).set (q * 7 + 2) x2).set (q * 7 + 3) x3).set (q * 7 + 4) x4).set (q * 7 + 5) x5).set (q * 7 + 6) x6) = mks k q ++ [x0, x1, x2, x3, x4, x5, x6] ++ rest' := by
    rw [List.set_append_right _ _ (by omega), List.set_append_right _ _ (by omega), List.set_append_right _ _ (by omega), List.set_append_right _ _ (by omega), List.set_append_right _ _ (by omega), List.set_append_right _ _ (by omega), List.set_append_right _ _ (by omega), hA]
    simp
  rw [e] at h1
  rw [mks_snoc, show mks k q ++ k = mks k q ++ [x0, x1, x2, x3, x4, x5, x6] by rw [← hx]]
  exact h1
theorem RdM.seven {m : Nat} {W : World} {v : Value} {n : Nat} (h : RdM 7 W v n (mkMatch m)) : ∃ a cap, v = .slice a n cap ∧ ∀ q, q < n → ∃ p, a = some ⟨p, 0, none⟩ ∧ W.cell? ⟨p, q * 7, none⟩ = some (.int .i64 0) ∧ W.cell? ⟨p, q * 7 + 1, none⟩ = some (.int .u64 0) ∧ W.cell? ⟨p, q * 7 + 2, none⟩ = some (.int .u64 0) ∧ W.cell? ⟨p, q * 7 + 3, none⟩ = some (.int .i64 0) ∧ W.cell? ⟨p, q * 7 + 4, none⟩ = some (.int .u64 0) ∧ W.cell? ⟨p, q * 7 + 5, none⟩ = some (.int .u64 0) ∧ W.cell? ⟨p, q * 7 + 6, none⟩ = some (.int .i64 (-1000 - (m : Int))) := by
  obtain ⟨a, cap, rfl, hc⟩ := h
  refine ⟨a, cap, rfl, fun q hq => ?_⟩
  have hj : ∀ j, j < 7 → q * 7 + j < n * 7 := fun j hj => by omega
  obtain ⟨p, rfl, _⟩ := hc (q * 7) (by omega)
  have hg : ∀ j, j < 7 → W.cell? ⟨p, q * 7 + j, none⟩ = (mkMatch m)[j]? := fun j hj3 => by
    obtain ⟨p', e, h'⟩ := hc (q * 7 + j) (hj j hj3)
    injection e with e
    injection e with e
    subst e
    rw [h', mks_get (mkMatch_len m) hq hj3]
  exact ⟨p, rfl, hg 0 (by decide), hg 1 (by decide), hg 2 (by decide), hg 3 (by decide), hg 4 (by decide), hg 5 (by decide), hg 6 (by decide)⟩
end Go.Proofs.YteflnicgohjiiaaGreatDoor
/- fillMatch of a Book. -/
namespace Go.Proofs.YteflnicgohjiiaaGreatDoor
open Go.RowKit

abbrev FlMatch (W wr : World) (B g : Nat) (vb : Value) (hs : List Hc) (k : Nat) : Prop := FlC 157 9 105 7 mkMatch W wr B g vb hs k
set_option maxRecDepth 100000 in
set_option maxHeartbeats 2000000 in
theorem fillMatch_any {W : World} {B g : Nat} {vb : Value} {hs : List Hc} (h : FlMatch W W B g vb hs 0) (s : SepC g vb hs) (hl : ∀ x ∈ hs, x.n ≤ 100000000 ∧ x.m < 1000000000 ∧ ∃ a n c, x.vl = .slice a n c) (hn : hs.length ≤ 1000000) :
    Calls Tryz.prog 49 #[.pointer (some ⟨g, 0, none⟩)] W fun e W' => e = .returned (.tuple #[]) ∧ FlMatch W W' B g vb hs hs.length := by
  have HS := hide s
  have HL := hide hl
  have H0 := hide h
  obtain ⟨av, nv, cv, hv⟩ : ∃ a n' c, vb = .slice a n' c := by
    rcases h.bk.row.2 with ⟨e, _⟩ | ⟨r, cap, cur, e, _⟩ <;> exact ⟨_, _, _, e⟩
  have hnv : nv = hs.length := by
    rcases h.bk.row.2 with ⟨e, e2⟩ | ⟨r, cap, cur, e, _⟩
    · rw [hv] at e; cases e; exact e2.symm
    · rw [hv] at e; cases e; rfl
  subst hv hnv
  clear s hl h
  go_enter Tryz.func49, Tryz.ntmps49
  go_wp2
  go_loopw [2] (fun i wr => ∃ k : Nat, k ≤ hs.length ∧ i = .int .i64 k ∧ FlMatch W wr B g (.slice av hs.length cv) hs k) (fun i _ => hs.length - (intOf i).toNat)
  case atStart => exact ⟨0, Nat.zero_le _, rfl, H0.out⟩
  case round =>
    obtain ⟨k, hk, rfl, hF⟩ := hrel
    have F1 := hide hF
    have c2 := hF.bk.co
    clear hF H0
    by_cases hlt : k < hs.length
    · obtain ⟨r, cap, hv, hr, _, hcap, r0, r1, r2, rs⟩ := F1.out.bk.at hlt
      injection hv with hv1 _ hv3
      subst hv1 hv3
      have hkI : (k : Int) < (hs.length : Int) := by omega
      have dk : decide (k < hs.length) = true := by simp; omega
      have hb1 : Below wr.heap.size wr (wr.alloc (.cells #[hs[k].v, hs[k].vl, .int .i64 hs[k].m] 157)) := (Below.refl _ _).alloc (Nat.le_refl _) _
      have F2 := hide (F1.out.next hb1)
      have hm := (HL.out _ (List.getElem_mem hlt))
      have HM := hide (fun W => markMatch_any hs[k].m hm.2.1 W)
      have HST := hide (fun (w' : World) => F2.out.step (w' := w') HS.out hlt)
      obtain ⟨xo, hold⟩ := F1.out.td k hlt (Nat.le_refl _)
      obtain ⟨xs2, ho⟩ := F2.out.td k hlt (Nat.le_refl _)
      obtain ⟨e0, e1, e2⟩ := boxC wr hs[k].v hs[k].vl (.int .i64 hs[k].m) 157
      clear c2 hb1 HL HS
      generalize hs[k] = x at *
      obtain ⟨v, vl, m, n⟩ := x
      simp only at *
      obtain ⟨hm1, hm2, al, nl, cl, hvl⟩ := hm
      subst hvl
      obtain ⟨a1, c1, hv1⟩ := owR_shape ho
      subst hv1
      have hnc : ¬ (Value.slice a1 n c1).ownBlock = some wr.heap.size := fun e => by have := (World.ownsRow.lt hold _ e).2; omega
      have HO : Hid (FlInC 105 7 (mkMatch m) _ _ B (.slice a1 n c1) n 0) := ⟨⟨xs2, ho⟩, Fr.refl _ _⟩
      generalize hW1 : wr.alloc (.cells #[.slice a1 n c1, .slice al nl cl, .int .i64 m] 157) = W1 at *
      have HW1 := hide hW1
      have c2 := F1.out.bk.co
      clear ho hold hW1
      rw [Nat.mul_comm] at r0 r1 r2
      go_wp2
      rw [HW1.out]
      clear HW1
      generalize wr.heap.size = c at *
      go_loopg [4] n (fun gk j wi => ∃ q : Nat, q + gk = n ∧ j = .int .i64 q ∧ FlInC 105 7 (mkMatch m) W1 wi B (.slice a1 n c1) n q)
      case atStart => exact ⟨0, by omega, rfl, HO.out⟩
      case round =>
        obtain ⟨q, hq, rfl, hin⟩ := hrel
        have hf := hin.fr
        have f0 := hf.cell e0 hnc
        have f2 := hf.cell e2 hnc
        have O2 := hide hin.ow
        have F3 := hide hf
        by_cases hqt : q < n
        · obtain ⟨rr, hrr⟩ := hin.ow
          obtain ⟨b, cb, hvb⟩ := owR_some hrr (by omega)
          injection hvb with e3 e4 e5
          clear e4 hrr
          subst e3 e5
          have hqI : (q : Int) < (n : Int) := by omega
          have dq : decide (q < n) = true := by simp; omega
          have HNC := hide hnc
          have hnb : ¬ (b = c) := fun e => HNC.out (by rw [← e]; rfl)
          clear hin hf e0 e1 e2 r0 r1 r2 c2 rs HST HO hnc
          go_wp2
          go_region_with (go_at_call 159; refine (HM.out _).mono ?_; rintro e w7 ⟨rfl, hb7⟩; have F7 := hide (F3.out.drew.trans (E' := fun _ => False) (Fr.ofBelow hb7) (fun _ _ e => e.elim)); have f70 := (Fr.ofBelow (E := fun _ => False) hb7).cell f0 (fun e => e); have f72 := (Fr.ofBelow (E := fun _ => False) hb7).cell f2 (fun e => e); obtain ⟨⟨u0, u1, u2, u3, u4, u5, u6, v0, v1, v2, v3, v4, v5, v6⟩, vf, vn⟩ := fill7 (mkMatch_len m) (O2.out.imp fun _ hx => owR_below (World.ownsRow.drew hx) hb7) hqt; have V0 := vf (q * 7); have V1 := vf (q * 7 + 1); have V2 := vf (q * 7 + 2); have V3 := vf (q * 7 + 3); have V4 := vf (q * 7 + 4); have V5 := vf (q * 7 + 5); have V6 := vf (q * 7 + 6); have VN := hide (vn _ _ _ _ _ _ _ rfl _ F7.out); clear vf vn hb7)
          all_goals
            go_wp2
            go_roundg (gk - 1)
            case measure => omega
            case rel => exact ⟨q + 1, by omega, by go_num, VN.out⟩
        · obtain rfl : q = n := by omega
          have dq : decide (q < q) = false := by simp
          have R5 := hide (HST.out wr F3.out (by obtain ⟨rest, hx⟩ := O2.out; have hl := hx.1; rw [List.length_append, mks_length (mkMatch_len m)] at hl; have hr : rest = [] := List.length_eq_zero_iff.1 (by omega); rw [hr, List.append_nil] at hx; exact hx))
          clear hin hf e0 e1 e2 r0 r1 r2 c2 rs HST HO hnc O2 F3
          go_wp2
          exact ⟨⟨k + 1, by omega, by go_num, R5.out⟩, by simp [intOf]; omega⟩
    · have dk : decide (k < hs.length) = false := by simp; omega
      obtain rfl : k = hs.length := by omega
      go_wp2
      go_end0
      exact ⟨rfl, F1.out⟩
end Go.Proofs.YteflnicgohjiiaaGreatDoor
