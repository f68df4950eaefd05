/- Pieces of the proof: GwH, Class, GwL, GwA. -/
import Derived.Test.YtfanhdjebmdniaaGreatDoorM13
import Derived.Test.YtfanhdjebmdniaaGreatDoorM11
import Derived.BigQuiet
/- growWord of a Book. -/
namespace Go.Proofs.YtfanhdjebmdniaaGreatDoor
open Go.RowKit

theorem Tryz.infoWd : (Tryz.prog.info? 68).map (fun i => (i.zero, i.size, i.bytes)) = some (some (.agg #[.int .u8 0, .string ⟨#[]⟩, .int .i64 0, .int .u64 0, .int .u64 0, .int .i64 0]), 6, 56) := by kernel_rfl
abbrev GrW (S : Nat → ByteArray) (W wr : World) (B g : Nat) (vb : Value) (hs ks : List Hc) (k : Nat) : Prop := GrC 94 7 68 6 (mkW S) W wr B g vb hs ks k
set_option maxRecDepth 100000 in
set_option maxHeartbeats 2000000 in
theorem growWord_any {S : Nat → ByteArray} {w0 W : World} {B g : Nat} {vb : Value} {hs : List Hc} (HMk : MarksW S B w0) (hB : B ≤ w0.heap.size) (hbel : Below B w0 W) (h : GrW S W W B g vb hs hs 0) (hn : hs.length ≤ 1000000) :
    Calls Tryz.prog 56 #[.pointer (some ⟨g, 0, none⟩)] W fun e W' => e = .returned (.tuple #[]) ∧ ∃ ks, ks.length = hs.length ∧ GrW S W W' B g vb hs ks ks.length := by
  have HMK := hide HMk
  have HBE := hide hbel
  have HBB := hide hB
  have H0 := hide h
  obtain ⟨i0, hi0, hz0, hz1, hz2⟩ := info_parts Tryz.infoWd
  have HLE : Hid (∀ b, GEc hs vb b → B ≤ b) := fun b hb => by
    rcases hb with hb | hb
    · obtain ⟨x, hx, e⟩ := hb
      obtain ⟨j, hj, rfl⟩ := List.getElem_of_mem hx
      exact (World.ownsRow.lt (h.td j hj (Nat.zero_le _)) b e).1
    · exact (h.bk.vlt b hb).1
  obtain ⟨av, nv, cv, hv⟩ : ∃ a n' c, vb = .slice a n' c := by
    rcases h.bk.row.2 with ⟨e, _⟩ | ⟨r, cap, cur, e, _⟩ <;> exact ⟨_, _, _, e⟩
  have hnv : nv = hs.length := by
    rcases h.bk.row.2 with ⟨e, e2⟩ | ⟨r, cap, cur, e, _⟩
    · rw [hv] at e; cases e; exact e2.symm
    · rw [hv] at e; cases e; rfl
  subst hv hnv
  clear h HMk hB hbel
  generalize hN : hs.length = N at *
  have HN := hide hN
  clear hN
  go_enter Tryz.func56, Tryz.ntmps56
  go_wp2
  go_loopg [2] N (fun gk i wr => ∃ (k : Nat) (ks : List Hc), k + gk = N ∧ i = .int .i64 k ∧ ks.length = N ∧ GrW S W wr B g (.slice av N cv) hs ks k)
  case atStart => exact ⟨0, hs, by omega, rfl, HN.out, H0.out⟩
  case round =>
    obtain ⟨k, ks, hk, rfl, hksl, hG⟩ := hrel
    have HK := hide hksl
    have HKG := hide hk
    have G1 := hide hG
    have c2 := hG.bk.co
    have BW : Hid (Below B w0 wr) := HBE.out.trans (hG.fr.below HLE.out (Nat.le_trans HBB.out HBE.out.size))
    clear hG H0 hksl
    by_cases hlt : k < N
    · have hlt' : k < ks.length := by have := HK.out; omega
      obtain ⟨r, cap, hv, hr, _, hcap, r0, r1, r2, rs⟩ := G1.out.bk.at hlt'
      injection hv with hv1 hv2 hv3
      clear hv2
      subst hv1 hv3
      have hkI : (k : Int) < (N : Int) := by omega
      have dk : decide (k < N) = true := by simp; omega
      have hlim := G1.out.lim _ (List.getElem_mem hlt')
      have hown := G1.out.td k hlt' (Nat.le_refl _)
      have hb1 : Below wr.heap.size wr (wr.alloc (.cells #[ks[k].v, ks[k].vl, .int .i64 ks[k].m] 94)) := (Below.refl _ _).alloc (Nat.le_refl _) _
      have G2 := hide (G1.out.next (mkW_len S) hb1)
      have B2 : Hid (Below B w0 (wr.alloc (.cells #[ks[k].v, ks[k].vl, .int .i64 ks[k].m] 94))) := BW.out.trans (hb1.mono (Nat.le_trans HBB.out BW.out.size))
      have hsep := G1.out.sep
      have HBK := hide (fun (wi : World) (hf : Fr (fun b => ks[k].v.ownBlock = some b) _ wi) => (G2.out.bk.fr hf (hsep.g _ (List.getElem_mem hlt')) (fun b hb e => hsep.b _ (List.getElem_mem hlt') b e hb)))
      have HST := hide (fun (wi : World) (lv : Value) => G2.out.step (mkW_len S) (wi := wi) (lv := lv) HK.out hlt')
      have HM := hide (HMK.out ks[k].m hlim.2.1)
      have HI : Hid (GInC 68 6 (mkW S ks[k].m) _ _ B ks[k].v ks[k].v ks[k].n 0) := ⟨ownR_below hown hb1, ownR_rdM (ownR_below hown hb1), Fr.refl _ _, fun b hb => .inl hb⟩
      have hvB : Hid (∀ b, ks[k].v.ownBlock = some b → B ≤ b) := fun b e => (World.ownsRow.lt hown b e).1
      have hnc : ¬ ks[k].v.ownBlock = some wr.heap.size := fun e => by have := (World.ownsRow.lt hown _ e).2; omega
      have hsz := hb1.size
      have hBW : B ≤ wr.heap.size := by have := G1.out.bk.gB; have := G1.out.bk.lt; omega
      obtain ⟨e0, e1, e2⟩ := boxC wr ks[k].v ks[k].vl (.int .i64 ks[k].m) 94
      have HAT := hide (fun (w' : World) (hb : GB 94 7 w' B g (.slice (some ⟨r, 0, none⟩) N cv) ks) => hb.at hlt')
      have hsl := ownR_shape hown
      obtain ⟨hx1, hx2, hx3⟩ := hlim
      clear hb1 hsep hown
      generalize hxk : ks[k] = x at *
      obtain ⟨v, vl, m, n⟩ := x
      simp only at *
      obtain ⟨a1, c1, hv1⟩ := hsl
      obtain ⟨al, nl, cl, hvl⟩ := hx3
      subst hv1 hvl
      generalize hW1 : wr.alloc (.cells #[.slice a1 n c1, .slice al nl cl, .int .i64 m] 94) = W1 at *
      have HW1 := hide hW1
      have HNC := hide hnc
      have HSZ := hide hsz
      have HZ : Hid (B ≤ W1.heap.size) := Nat.le_trans HBB.out B2.out.size
      clear hW1 hxk hsz
      rw [Nat.mul_comm] at r0 r1 r2
      obtain ⟨go, hgo⟩ : ∃ go, go = gk := ⟨_, rfl⟩
      subst hgo
      clear hk
      go_wp2
      rw [HW1.out]
      clear HW1 G1 G2
      generalize wr.heap.size = c at *
      go_loopg [4, 5] 40 (fun gk lv j wi => ∃ q : Nat, q + gk = 40 ∧ j = .int .i64 q ∧ GInC 68 6 (mkW S m) W1 wi B (.slice a1 n c1) lv n q)
      case atStart => exact ⟨0, by omega, rfl, HI.out⟩
      case round =>
        obtain ⟨q, hq, rfl, hin⟩ := hrel
        have HIN := hide hin
        obtain ⟨a2, c2', hv2⟩ := ownR_shape hin.ow
        subst hv2
        have f2 := hin.fr.cell e2 HNC.out
        have HQ := hide hq
        have B3 : Hid (Below B w0 wr) := B2.out.trans (hin.fr.below hvB.out HZ.out)
        by_cases hqt : q < 40
        · have hqI : (q : Int) < 40 := by omega
          have dq : decide (q < 40) = true := by simp; omega
          clear hin e0 e1 e2 r0 r1 r2 c2 rs HST HBK HAT hnc hq
          generalize hnq : n + q = nq at *
          have HNQ := hide hnq
          clear hnq
          go_wp2_with (first
            | (go_at_call 129; refine (HM.out _ B3.out).mono ?_; rintro e w7 ⟨rfl, hb7⟩; have I7 := hide (HIN.out.next (mkW_len S m) hb7); have Z7 : Hid (B ≤ w7.heap.size) := Nat.le_trans (Nat.le_trans HBB.out B3.out.size) hb7.size; clear hb7)
            | (at_builtin; refine wpList_appC rfl _ _ 22 rfl 68 i0 _ 6 56 Tryz.underlying22 hi0 hz0 hz1 hz2 rfl (by decide) (by decide) B _ nq (mks (mkW S m) nq) rfl (by have := I7.out.ow; rw [HNQ.out] at this; exact ownR_below this ((Below.refl _ _).alloc (Nat.le_refl _) _)) _ (mkW S m) rfl rfl (cells_newC _ (mkW S m) _) (by intro u hu; simp [mkW] at hu; rcases hu with rfl | rfl | rfl | rfl | rfl <;> rfl) (by have := HNQ.out; omega) (by have := Z7.out; simp; omega) ?_; intro v8 w8 O8 D8; have I8 := hide ((I7.out.next (mkW_len S m) ((Below.refl _ _).alloc (Nat.le_refl _) _)).step (mkW_len S m) (by rw [HNQ.out]; exact O8) D8); clear O8 D8))
          go_roundg (gk - 1)
          case measure => have := HQ.out; omega
          case rel => exact ⟨q + 1, by have := HQ.out; omega, by go_num, I8.out⟩
        · obtain rfl : q = 40 := by omega
          have dq : decide (40 < 40) = false := by simp
          have hB := HBK.out _ hin.fr
          obtain ⟨r', cap', hv', _, _, _, s0, s1, s2, ss⟩ := HAT.out _ hB
          injection hv' with hv1 hv2 hv3
          injection hv1 with hv1
          injection hv1 with hv1
          clear hv2
          subst hv1 hv3
          have c2n := hB.co
          rw [Nat.mul_comm] at s0 s1 s2
          have ssk := ss (k * 3 + 1)
          have R9 := hide (HST.out wr _ HIN.out)
          rw [Nat.mul_comm 3 k] at R9
          have HLE2 : Hid ((ks.set k ⟨.slice a1 n c1, .slice a2 (n + 40) c2', m, n⟩).length = N) := by show _ = _; rw [List.length_set]; exact HK.out
          clear hin e0 e1 e2 r0 r1 r2 c2 rs HST HBK HAT hnc hq hB ss
          generalize n + 40 = n4 at *
          go_wp2
          go_roundg (go - 1)
          case measure => have := HKG.out; omega
          case rel => exact ⟨k + 1, _, by have := HKG.out; omega, by go_num, HLE2.out, R9.out⟩
    · have dk : decide (k < N) = false := by simp; omega
      obtain rfl : k = N := by have := HKG.out; omega
      have hr : Hid (∃ ks : List Hc, ks.length = k ∧ GrW S W wr B g (.slice av k cv) hs ks ks.length) := ⟨ks, HK.out, by rw [HK.out]; exact G1.out⟩
      clear G1 HK hk HKG HN
      go_wp2
      go_end0
      exact ⟨rfl, hr.out⟩
end Go.Proofs.YtfanhdjebmdniaaGreatDoor
/- A drawn region walked once, in the text's order, over a class of worlds of one's own: its callees may make memory, and operations whose guard says no are passed over. No program stands in it. -/
namespace Go.Proofs.YtfanhdjebmdniaaGreatDoor
open Go

theorem wp_region_class {P : Program} {X : Type} (f : X → World) {id : Nat} {Q : Exit → Act → World → Prop} {a : Act} {w : World} {l : List Oper} (hm : P.follows .mixedOrders = true) (hB : Region.lexB .any l.toArray = true) (hC : ∃ x, { w with drawn := w.drawn + 1 } = f x)
    (h : wpQuiet P l.toArray (fun w' => ∃ x, w' = f x) (fun a' => ∀ w', (∃ x, w' = f x) → Q .normal a' w') l a) : (Code.region id l.toArray true).wp P Q a w :=
  wp_region_quiet (C := fun w' => ∃ x, w' = f x) hm hB hC (by simpa using h)
theorem class_of (S : World → Prop) (w0 : World) (h : S w0) : ∃ (X : Type) (f : X → World), Nonempty X ∧ (∀ x, S (f x)) ∧ ∀ w', S w' → ∃ x, w' = f x :=
  ⟨{ w // S w }, Subtype.val, ⟨⟨w0, h⟩⟩, fun x => x.2, fun w' h => ⟨⟨w', h⟩, rfl⟩⟩
end Go.Proofs.YtfanhdjebmdniaaGreatDoor
/- lookWord of a Book. -/
namespace Go.Proofs.YtfanhdjebmdniaaGreatDoor
open Go.RowKit

def IsW (S : Nat → ByteArray) (B : Nat) (w0 : World) : Prop := ∀ (m : Nat), m < 1000000000 → ∀ W, Below B w0 W → Calls Tryz.prog 159 #[.agg #[.int .u8 0, .string (S m), .int .i64 0, .int .u64 0, .int .u64 0, .int .i64 0], .int .i64 (m : Int)] W fun e w' => e = .returned (.bool true) ∧ Below W.heap.size W w'
theorem RdM.six {S : Nat → ByteArray} {m : Nat} {W : World} {v : Value} {n : Nat} (h : RdM 6 W v n (mkW S m)) : ∃ a cap, v = .slice a n cap ∧ ∀ q, q < n → ∃ p, a = some ⟨p, 0, none⟩ ∧ W.cell? ⟨p, q * 6, none⟩ = some (.int .u8 0) ∧ W.cell? ⟨p, q * 6 + 1, none⟩ = some (.string (S m)) ∧ W.cell? ⟨p, q * 6 + 2, none⟩ = some (.int .i64 0) ∧ W.cell? ⟨p, q * 6 + 3, none⟩ = some (.int .u64 0) ∧ W.cell? ⟨p, q * 6 + 4, none⟩ = some (.int .u64 0) ∧ W.cell? ⟨p, q * 6 + 5, none⟩ = some (.int .i64 0) := by
  obtain ⟨a, cap, rfl, hc⟩ := h
  refine ⟨a, cap, rfl, fun q hq => ?_⟩
  have hj : ∀ j, j < 6 → q * 6 + j < n * 6 := fun j hj => by omega
  obtain ⟨p, rfl, _⟩ := hc (q * 6) (by omega)
  have hg : ∀ j, j < 6 → W.cell? ⟨p, q * 6 + j, none⟩ = (mkW S m)[j]? := fun j hj6 => by
    obtain ⟨p', e, h'⟩ := hc (q * 6 + j) (hj j hj6)
    injection e with e
    injection e with e
    subst e
    rw [h', mks_get (mkW_len S m) hq hj6]
  exact ⟨p, rfl, hg 0 (by decide), hg 1 (by decide), hg 2 (by decide), hg 3 (by decide), hg 4 (by decide), hg 5 (by decide)⟩
set_option maxRecDepth 100000 in
set_option maxHeartbeats 4000000 in
theorem lookWord_any {S : Nat → ByteArray} {w0 W w : World} {B g : Nat} {vb : Value} {hs ks : List Hc} (HIs : IsW S B w0) (hB : B ≤ w0.heap.size) (hbel : Below B w0 w) (h : GrW S W w B g vb hs ks ks.length) (hn : ks.length ≤ 1000000) :
    Calls Tryz.prog 86 #[.pointer (some ⟨g, 0, none⟩)] w fun e w' => e = .returned (.bool true) ∧ Below w.heap.size w w' := by
  have HIS := hide HIs
  have HBE := hide hbel
  have HBB := hide hB
  have H0 := hide h
  obtain ⟨av, nv, cv, hv⟩ : ∃ a n' c, vb = .slice a n' c := by
    rcases h.bk.row.2 with ⟨e, _⟩ | ⟨r, cap, cur, e, _⟩ <;> exact ⟨_, _, _, e⟩
  have hnv : nv = ks.length := by
    rcases h.bk.row.2 with ⟨e, e2⟩ | ⟨r, cap, cur, e, _⟩
    · rw [hv] at e; cases e; exact e2.symm
    · rw [hv] at e; cases e; rfl
  subst hv hnv
  clear h HIs hB hbel
  generalize hN : ks.length = N at *
  have HN := hide hN
  clear hN
  go_enter Tryz.func86, Tryz.ntmps86
  go_wp2
  go_loopg [3] N (fun gk i wr => ∃ k : Nat, k + gk = N ∧ i = .int .i64 k ∧ Below w.heap.size w wr)
  case atStart => exact ⟨0, by omega, rfl, Below.refl _ _⟩
  case round =>
    obtain ⟨k, hk, rfl, hbl⟩ := hrel
    have HKG := hide hk
    have G1 := hide (H0.out.next (mkW_len S) hbl)
    have B1 := hide hbl
    have BW : Hid (Below B w0 wr) := HBE.out.trans (hbl.mono (Nat.le_trans HBB.out HBE.out.size))
    have c2 := G1.out.bk.co
    clear hbl H0
    by_cases hlt : k < N
    · have hlt' : k < ks.length := by have := HN.out; omega
      obtain ⟨r, cap, hv, hr, _, hcap, r0, r1, r2, rs⟩ := G1.out.bk.at hlt'
      injection hv with hv1 hv2 hv3
      clear hv2
      subst hv1 hv3
      have hkI : (k : Int) < (N : Int) := by omega
      have dk : decide (k < N) = true := by simp; omega
      obtain ⟨hx1, hx2, _⟩ := G1.out.lim _ (List.getElem_mem hlt')
      have hb1 : Below wr.heap.size wr (wr.alloc (.cells #[ks[k].v, ks[k].vl, .int .i64 ks[k].m] 94)) := (Below.refl _ _).alloc (Nat.le_refl _) _
      have hdn := (G1.out.next (mkW_len S) hb1).dn k hlt' (by omega)
      have B2 := hide (B1.out.trans (hb1.mono B1.out.size))
      have BV : Hid (Below B w0 (wr.alloc (.cells #[ks[k].v, ks[k].vl, .int .i64 ks[k].m] 94))) := BW.out.trans (hb1.mono (Nat.le_trans HBB.out BW.out.size))
      have HM := hide (HIS.out ks[k].m hx2)
      obtain ⟨d1, d2, _, _⟩ := hdn
      have R1 := hide (ownR_rdM d1)
      have R2 := hide d2
      obtain ⟨e0, e1, e2⟩ := boxC wr ks[k].v ks[k].vl (.int .i64 ks[k].m) 94
      clear hb1 d1 d2
      generalize hxk : ks[k] = x at *
      obtain ⟨v, vl, m, L⟩ := x
      simp only at *
      obtain ⟨a2, c2', hv2, hq2⟩ := R1.out.six
      obtain ⟨a1, c1, hv1, hq1⟩ := R2.out.six
      subst hv1 hv2
      have HQ1 := hide hq1
      have HQ2 := hide hq2
      generalize hW1 : wr.alloc (.cells #[.slice a1 L c1, .slice a2 (L + 40) c2', .int .i64 m] 94) = W1 at *
      have HW1 := hide hW1
      have hadd : IntKind.i64.wrap ((L : Int) + 40) = ((L + 40 : Nat) : Int) := by rw [IntKind.wrap_i64]; omega
      have hcz : wr.heap.size < W1.heap.size := by rw [← HW1.out]; simp
      have HZ : Hid (B ≤ W1.heap.size) := Nat.le_trans HBB.out BV.out.size
      clear hW1 hxk hq1 hq2 R1 R2
      rw [Nat.mul_comm] at r0 r1 r2
      obtain ⟨go, hgo⟩ : ∃ go, go = gk := ⟨_, rfl⟩
      subst hgo
      clear hk
      go_wp2
      rw [HW1.out]
      clear HW1 G1 HN
      generalize wr.heap.size = c at *
      go_loopg [5] (L + 40) (fun gk j wi => ∃ q : Nat, q + gk = L + 40 ∧ j = .int .i64 q ∧ Below W1.heap.size W1 wi)
      case atStart => exact ⟨0, by omega, rfl, Below.refl _ _⟩
      case round =>
        obtain ⟨q, hq, rfl, hb3⟩ := hrel
        have HQ := hide hq
        have B3 := hide hb3
        have f0 := (hb3.cell (p := ⟨c, 0, none⟩) hcz).trans e0
        have f1 := (hb3.cell (p := ⟨c, 1, none⟩) hcz).trans e1
        have f2 := (hb3.cell (p := ⟨c, 2, none⟩) hcz).trans e2
        by_cases hqt : q < L + 40
        · obtain ⟨p2, rfl, s0, s1, s2, s3, s4, s5⟩ := HQ2.out q hqt
          have dq : decide (q < L + 40) = true := by simp; omega
          have hqI : (q : Int) < ((L + 40 : Nat) : Int) := by omega
          obtain ⟨X, f, hX, hS, hcov⟩ := class_of (fun w' => Below W1.heap.size W1 w') wr.drew B3.out.drew
          have f0' := fun x => ((hS x).cell (p := ⟨c, 0, none⟩) hcz).trans e0
          have f1' := fun x => ((hS x).cell (p := ⟨c, 1, none⟩) hcz).trans e1
          have f2' := fun x => ((hS x).cell (p := ⟨c, 2, none⟩) hcz).trans e2
          have hlt2 := World.block_lt_of_cell? W1 _ s0
          have t0 := fun x => ((hS x).cell (p := ⟨p2, q * 6, none⟩) hlt2).trans s0
          have t1 := fun x => ((hS x).cell (p := ⟨p2, q * 6 + 1, none⟩) hlt2).trans s1
          have t2 := fun x => ((hS x).cell (p := ⟨p2, q * 6 + 2, none⟩) hlt2).trans s2
          have t3 := fun x => ((hS x).cell (p := ⟨p2, q * 6 + 3, none⟩) hlt2).trans s3
          have t4 := fun x => ((hS x).cell (p := ⟨p2, q * 6 + 4, none⟩) hlt2).trans s4
          have t5 := fun x => ((hS x).cell (p := ⟨p2, q * 6 + 5, none⟩) hlt2).trans s5
          have HC0 : Hid (∃ x, wr.drew = f x) := hcov _ B3.out.drew
          have HSB : Hid (∀ x, Below B w0 (f x)) := fun x => BV.out.trans ((hS x).mono HZ.out)
          have HNX : Hid (∀ x w', Below (f x).heap.size (f x) w' → ∃ y, w' = f y) := fun x w' hb => hcov w' ((hS x).trans (hb.mono (hS x).size))
          have HSS := hide hS
          clear hcov hS s0 s1 s2 s3 s4 s5 hlt2
          by_cases hql : q < L
          · obtain ⟨p1, rfl, s0, s1, s2, s3, s4, s5⟩ := HQ1.out q hql
            have hlt1 := World.block_lt_of_cell? W1 _ s0
            have t6 := fun x => ((HSS.out x).cell (p := ⟨p1, q * 6, none⟩) hlt1).trans s0
            have t7 := fun x => ((HSS.out x).cell (p := ⟨p1, q * 6 + 1, none⟩) hlt1).trans s1
            have t8 := fun x => ((HSS.out x).cell (p := ⟨p1, q * 6 + 2, none⟩) hlt1).trans s2
            have t9 := fun x => ((HSS.out x).cell (p := ⟨p1, q * 6 + 3, none⟩) hlt1).trans s3
            have t10 := fun x => ((HSS.out x).cell (p := ⟨p1, q * 6 + 4, none⟩) hlt1).trans s4
            have t11 := fun x => ((HSS.out x).cell (p := ⟨p1, q * 6 + 5, none⟩) hlt1).trans s5
            have dq1 : decide (q < L) = true := by simp; omega
            have hqI1 : (q : Int) < (L : Int) := by omega
            clear s0 s1 s2 s3 s4 s5 hlt1 hb3 e0 e1 e2 r0 r1 r2 c2 rs hq HQ1 HQ2
            go_wp2
            refine wp_region_class f (by kernel_rfl) (by kernel_rfl) HC0.out ?_
            repeat (first
              | go_big_quiet_skip
              | (go_big_quiet_want; go_big_quiet_op; first
                  | go_big_quiet_on
                  | (apply Exists.intro
                     refine ⟨fun _ => ?_, ?_⟩
                     · (go_at_call 159; refine (HM.out _ (HSB.out _)).mono ?_; rintro e' wn ⟨rfl, hb⟩; exact ⟨rfl, HNX.out _ _ hb⟩)
                     go_big_quiet_on)))
            refine wpQuiet_nil ?_
            rintro _ ⟨x, rfl⟩
            go_wp2
            go_roundg (gk - 1)
            case measure => have := HQ.out; omega
            case rel => exact ⟨q + 1, by have := HQ.out; omega, by go_num, HSS.out x⟩
          · have dq1 : decide (q < L) = false := by simp; omega
            clear hb3 e0 e1 e2 r0 r1 r2 c2 rs hq HQ1 HQ2
            go_wp2
            refine wp_region_class f (by kernel_rfl) (by kernel_rfl) HC0.out ?_
            repeat (first
              | go_big_quiet_skip
              | (go_big_quiet_want; go_big_quiet_op; first
                  | go_big_quiet_on
                  | (apply Exists.intro
                     refine ⟨fun _ => ?_, ?_⟩
                     · (go_at_call 159; refine (HM.out _ (HSB.out _)).mono ?_; rintro e' wn ⟨rfl, hb⟩; exact ⟨rfl, HNX.out _ _ hb⟩)
                     go_big_quiet_on)))
            refine wpQuiet_nil ?_
            rintro _ ⟨x, rfl⟩
            go_wp2
            go_roundg (gk - 1)
            case measure => have := HQ.out; omega
            case rel => exact ⟨q + 1, by have := HQ.out; omega, by go_num, HSS.out x⟩
        · have dq : decide (q < L + 40) = false := by simp; omega
          have B4 := hide (B2.out.trans (B3.out.mono B2.out.size))
          clear hb3 e0 e1 e2 r0 r1 r2 c2 rs hq HQ1 HQ2
          go_wp2
          go_roundg (go - 1)
          case measure => have := HKG.out; omega
          case rel => exact ⟨k + 1, by have := HKG.out; omega, by go_num, B4.out⟩
    · have dk : decide (k < N) = false := by simp; omega
      clear G1 HN hk
      go_wp2
      go_ret
      exact ⟨rfl, B1.out⟩
end Go.Proofs.YtfanhdjebmdniaaGreatDoor
/- Apart of a Book that was told lists of words alone. -/
namespace Go.Proofs.YtfanhdjebmdniaaGreatDoor
open Go.RowKit

/- A Book in whose lists no memory is shared. -/
structure BokW (W : World) (B g : Nat) (vb : Value) (hs : List Hc) : Prop where
  bk : GB 94 7 W B g vb hs
  cz : ∀ o, 1 ≤ o → o ≤ 30 → o ≠ 7 → W.cell? ⟨g, o, none⟩ = some (.slice none 0 0)
  sep : SepC g vb hs
  ow : ∀ x ∈ hs, ∃ xs, W.ownsRow B 68 6 x.v x.n xs
  lim : ∀ x ∈ hs, x.n ≤ 100000000 ∧ x.m < 1000000000 ∧ ∃ a n c, x.vl = .slice a n c
  nn : hs.length ≤ 1000000
theorem BokW.fl {S : Nat → ByteArray} {W : World} {B g : Nat} {vb : Value} {hs : List Hc} (h : BokW W B g vb hs) : FlW S W W B g vb hs 0 := ⟨h.bk, fun j hj hk => by omega, fun j hj _ => h.ow _ (List.getElem_mem hj), Fr.refl _ _⟩
theorem GEc.ge {hs : List Hc} {vb : Value} {B : Nat} {W : World} {et c : Nat} (h : ∀ x ∈ hs, ∃ xs, W.ownsRow B et c x.v x.n xs) (hv : ∀ b, vb.ownBlock = some b → B ≤ b ∧ b < W.heap.size) : ∀ b, GEc hs vb b → B ≤ b := fun b hb => by
  rcases hb with ⟨x, hx, e⟩ | hb
  · obtain ⟨xs, ho⟩ := h x hx; exact (World.ownsRow.lt ho b e).1
  · exact (hv b hb).1
theorem apartC_fr {W W1 W2 W3 : World} {hs : List Hc} {vb : Value} (h1 : Fr (LEc hs) W W1) (h2 : Fr (GEc hs vb) W1 W2) (h3 : Below W2.heap.size W2 W3) : Fr (GEc hs vb) W W3 := by
  have h0 : Fr (GEc hs vb) W W1 := ⟨h1.os, h1.tape, h1.output, h1.size, fun b hb hn => h1.block b hb (fun e => hn (.inl e))⟩
  exact (h0.trans h2 (fun _ _ e => e)).trans (E' := fun _ => False) (Fr.ofBelow h3) (fun _ _ e => e.elim)
set_option maxRecDepth 100000 in
set_option maxHeartbeats 4000000 in
theorem apartW_yes {S : Nat → ByteArray} {w0 W : World} {B g : Nat} {vb : Value} {hs : List Hc} (HMk : MarksW S B w0) (HIs : IsW S B w0) (hB : B ≤ w0.heap.size) (hbel : Below B w0 W) (h : BokW W B g vb hs) : Calls Tryz.prog 11 #[.pointer (some ⟨g, 0, none⟩)] W fun e W' => e = .returned (.bool true) ∧ Fr (GEc hs vb) W W' := by
  have HB := hide h
  have Z1 := hide h.cz
  have HMK := hide HMk
  have HIS := hide HIs
  have HBB := hide hB
  have HBE := hide hbel
  have HGE : Hid (∀ b, GEc hs vb b → B ≤ b) := GEc.ge h.ow h.bk.vlt
  clear h HMk HIs hB hbel
  go_enter Tryz.func11, Tryz.ntmps11
  go_wp2_with fail
  refine (fillInt_no g _ (Z1.out 1 (by decide) (by decide) (by decide))).mono ?_
  rintro e w1 ⟨rfl, hw⟩
  subst hw
  go_wp2_with fail
  refine (fillByte_no g _ (Z1.out 2 (by decide) (by decide) (by decide))).mono ?_
  rintro e w1 ⟨rfl, hw⟩
  subst hw
  go_wp2_with fail
  refine (fillKind_no g _ (Z1.out 3 (by decide) (by decide) (by decide))).mono ?_
  rintro e w1 ⟨rfl, hw⟩
  subst hw
  go_wp2_with fail
  refine (fillText_no g _ (Z1.out 4 (by decide) (by decide) (by decide))).mono ?_
  rintro e w1 ⟨rfl, hw⟩
  subst hw
  go_wp2_with fail
  refine (fillBlob_no g _ (Z1.out 5 (by decide) (by decide) (by decide))).mono ?_
  rintro e w1 ⟨rfl, hw⟩
  subst hw
  go_wp2_with fail
  refine (fillNumber_no g _ (Z1.out 6 (by decide) (by decide) (by decide))).mono ?_
  rintro e w1 ⟨rfl, hw⟩
  subst hw
  go_wp2_with fail
  refine (fillWord_any HMK.out HBB.out HBE.out HB.out.fl HB.out.sep HB.out.lim HB.out.nn).mono ?_
  rintro e W1 ⟨rfl, hF⟩
  have G0 := hide (hF.grow HB.out.sep HB.out.lim (Fr.refl _ _))
  have NN := hide HB.out.nn
  have Z2 : Hid (∀ o, 1 ≤ o → o ≤ 30 → o ≠ 7 → W1.cell? ⟨g, o, none⟩ = some (.slice none 0 0)) := fun o h1 h2 h3 => hF.fr.cell (Z1.out o h1 h2 h3) HB.out.sep.nE.1
  have B1 : Hid (Below B w0 W1) := HBE.out.trans (hF.fr.below (fun b hb => HGE.out b (.inl hb)) (Nat.le_trans HBB.out HBE.out.size))
  have FR1 := hide hF.fr
  have HGG : Hid (¬ GEc hs vb g) := fun e => by
    rcases e with e | e
    · exact HB.out.sep.nE.1 e
    · exact HB.out.bk.ne e
  clear hF HB Z1
  go_wp2_with fail
  refine (fillField_no g _ (Z2.out 8 (by decide) (by decide) (by decide))).mono ?_
  rintro e w1 ⟨rfl, hw⟩
  subst hw
  go_wp2_with fail
  refine (fillMatch_no g _ (Z2.out 9 (by decide) (by decide) (by decide))).mono ?_
  rintro e w1 ⟨rfl, hw⟩
  subst hw
  go_wp2_with fail
  refine (fillArr_no g _ (Z2.out 10 (by decide) (by decide) (by decide))).mono ?_
  rintro e w1 ⟨rfl, hw⟩
  subst hw
  go_wp2_with fail
  refine (fillCase_no g _ (Z2.out 11 (by decide) (by decide) (by decide))).mono ?_
  rintro e w1 ⟨rfl, hw⟩
  subst hw
  go_wp2_with fail
  refine (fillJump_no g _ (Z2.out 12 (by decide) (by decide) (by decide))).mono ?_
  rintro e w1 ⟨rfl, hw⟩
  subst hw
  go_wp2_with fail
  refine (fillExpr_no g _ (Z2.out 13 (by decide) (by decide) (by decide))).mono ?_
  rintro e w1 ⟨rfl, hw⟩
  subst hw
  go_wp2_with fail
  refine (fillStmt_no g _ (Z2.out 14 (by decide) (by decide) (by decide))).mono ?_
  rintro e w1 ⟨rfl, hw⟩
  subst hw
  go_wp2_with fail
  refine (fillState_no g _ (Z2.out 15 (by decide) (by decide) (by decide))).mono ?_
  rintro e w1 ⟨rfl, hw⟩
  subst hw
  go_wp2_with fail
  refine (fillKey_no g _ (Z2.out 16 (by decide) (by decide) (by decide))).mono ?_
  rintro e w1 ⟨rfl, hw⟩
  subst hw
  go_wp2_with fail
  refine (fillDecl_no g _ (Z2.out 17 (by decide) (by decide) (by decide))).mono ?_
  rintro e w1 ⟨rfl, hw⟩
  subst hw
  go_wp2_with fail
  refine (fillEntry_no g _ (Z2.out 18 (by decide) (by decide) (by decide))).mono ?_
  rintro e w1 ⟨rfl, hw⟩
  subst hw
  go_wp2_with fail
  refine (fillGroup_no g _ (Z2.out 19 (by decide) (by decide) (by decide))).mono ?_
  rintro e w1 ⟨rfl, hw⟩
  subst hw
  go_wp2_with fail
  refine (fillHead_no g _ (Z2.out 20 (by decide) (by decide) (by decide))).mono ?_
  rintro e w1 ⟨rfl, hw⟩
  subst hw
  go_wp2_with fail
  refine (fillNode_no g _ (Z2.out 21 (by decide) (by decide) (by decide))).mono ?_
  rintro e w1 ⟨rfl, hw⟩
  subst hw
  go_wp2_with fail
  refine (fillAct_no g _ (Z2.out 22 (by decide) (by decide) (by decide))).mono ?_
  rintro e w1 ⟨rfl, hw⟩
  subst hw
  go_wp2_with fail
  refine (fillTable_no g _ (Z2.out 23 (by decide) (by decide) (by decide))).mono ?_
  rintro e w1 ⟨rfl, hw⟩
  subst hw
  go_wp2_with fail
  refine (fillIns_no g _ (Z2.out 24 (by decide) (by decide) (by decide))).mono ?_
  rintro e w1 ⟨rfl, hw⟩
  subst hw
  go_wp2_with fail
  refine (fillEffect_no g _ (Z2.out 25 (by decide) (by decide) (by decide))).mono ?_
  rintro e w1 ⟨rfl, hw⟩
  subst hw
  go_wp2_with fail
  refine (fillUpdate_no g _ (Z2.out 26 (by decide) (by decide) (by decide))).mono ?_
  rintro e w1 ⟨rfl, hw⟩
  subst hw
  go_wp2_with fail
  refine (fillEvent_no g _ (Z2.out 27 (by decide) (by decide) (by decide))).mono ?_
  rintro e w1 ⟨rfl, hw⟩
  subst hw
  go_wp2_with fail
  refine (fillOut_no g _ (Z2.out 28 (by decide) (by decide) (by decide))).mono ?_
  rintro e w1 ⟨rfl, hw⟩
  subst hw
  go_wp2_with fail
  refine (fillRow_no g _ (Z2.out 29 (by decide) (by decide) (by decide))).mono ?_
  rintro e w1 ⟨rfl, hw⟩
  subst hw
  go_wp2_with fail
  refine (fillArray_no g _ (Z2.out 30 (by decide) (by decide) (by decide))).mono ?_
  rintro e w1 ⟨rfl, hw⟩
  subst hw
  go_wp2_with fail
  refine (growInt_no g _ (Z2.out 1 (by decide) (by decide) (by decide))).mono ?_
  rintro e w1 ⟨rfl, hw⟩
  subst hw
  go_wp2_with fail
  refine (growByte_no g _ (Z2.out 2 (by decide) (by decide) (by decide))).mono ?_
  rintro e w1 ⟨rfl, hw⟩
  subst hw
  go_wp2_with fail
  refine (growKind_no g _ (Z2.out 3 (by decide) (by decide) (by decide))).mono ?_
  rintro e w1 ⟨rfl, hw⟩
  subst hw
  go_wp2_with fail
  refine (growText_no g _ (Z2.out 4 (by decide) (by decide) (by decide))).mono ?_
  rintro e w1 ⟨rfl, hw⟩
  subst hw
  go_wp2_with fail
  refine (growBlob_no g _ (Z2.out 5 (by decide) (by decide) (by decide))).mono ?_
  rintro e w1 ⟨rfl, hw⟩
  subst hw
  go_wp2_with fail
  refine (growNumber_no g _ (Z2.out 6 (by decide) (by decide) (by decide))).mono ?_
  rintro e w1 ⟨rfl, hw⟩
  subst hw
  go_wp2_with fail
  refine (growWord_any HMK.out HBB.out B1.out G0.out NN.out).mono ?_
  rintro e W2 ⟨rfl, ks, hl, hG⟩
  have G1 := hide hG
  have NK : Hid (ks.length ≤ 1000000) := by have := NN.out; show _ ≤ _; omega
  have Z3 : Hid (∀ o, 1 ≤ o → o ≤ 30 → o ≠ 7 → W2.cell? ⟨g, o, none⟩ = some (.slice none 0 0)) := fun o h1 h2 h3 => hG.fr.cell (Z2.out o h1 h2 h3) HGG.out
  have B2 : Hid (Below B w0 W2) := B1.out.trans (hG.fr.below HGE.out (Nat.le_trans HBB.out B1.out.size))
  have FR2 := hide hG.fr
  clear hG hl G0 Z2
  go_wp2_with fail
  refine (growField_no g _ (Z3.out 8 (by decide) (by decide) (by decide))).mono ?_
  rintro e w1 ⟨rfl, hw⟩
  subst hw
  go_wp2_with fail
  refine (growMatch_no g _ (Z3.out 9 (by decide) (by decide) (by decide))).mono ?_
  rintro e w1 ⟨rfl, hw⟩
  subst hw
  go_wp2_with fail
  refine (growArr_no g _ (Z3.out 10 (by decide) (by decide) (by decide))).mono ?_
  rintro e w1 ⟨rfl, hw⟩
  subst hw
  go_wp2_with fail
  refine (growCase_no g _ (Z3.out 11 (by decide) (by decide) (by decide))).mono ?_
  rintro e w1 ⟨rfl, hw⟩
  subst hw
  go_wp2_with fail
  refine (growJump_no g _ (Z3.out 12 (by decide) (by decide) (by decide))).mono ?_
  rintro e w1 ⟨rfl, hw⟩
  subst hw
  go_wp2_with fail
  refine (growExpr_no g _ (Z3.out 13 (by decide) (by decide) (by decide))).mono ?_
  rintro e w1 ⟨rfl, hw⟩
  subst hw
  go_wp2_with fail
  refine (growStmt_no g _ (Z3.out 14 (by decide) (by decide) (by decide))).mono ?_
  rintro e w1 ⟨rfl, hw⟩
  subst hw
  go_wp2_with fail
  refine (growState_no g _ (Z3.out 15 (by decide) (by decide) (by decide))).mono ?_
  rintro e w1 ⟨rfl, hw⟩
  subst hw
  go_wp2_with fail
  refine (growKey_no g _ (Z3.out 16 (by decide) (by decide) (by decide))).mono ?_
  rintro e w1 ⟨rfl, hw⟩
  subst hw
  go_wp2_with fail
  refine (growDecl_no g _ (Z3.out 17 (by decide) (by decide) (by decide))).mono ?_
  rintro e w1 ⟨rfl, hw⟩
  subst hw
  go_wp2_with fail
  refine (growEntry_no g _ (Z3.out 18 (by decide) (by decide) (by decide))).mono ?_
  rintro e w1 ⟨rfl, hw⟩
  subst hw
  go_wp2_with fail
  refine (growGroup_no g _ (Z3.out 19 (by decide) (by decide) (by decide))).mono ?_
  rintro e w1 ⟨rfl, hw⟩
  subst hw
  go_wp2_with fail
  refine (growHead_no g _ (Z3.out 20 (by decide) (by decide) (by decide))).mono ?_
  rintro e w1 ⟨rfl, hw⟩
  subst hw
  go_wp2_with fail
  refine (growNode_no g _ (Z3.out 21 (by decide) (by decide) (by decide))).mono ?_
  rintro e w1 ⟨rfl, hw⟩
  subst hw
  go_wp2_with fail
  refine (growAct_no g _ (Z3.out 22 (by decide) (by decide) (by decide))).mono ?_
  rintro e w1 ⟨rfl, hw⟩
  subst hw
  go_wp2_with fail
  refine (growTable_no g _ (Z3.out 23 (by decide) (by decide) (by decide))).mono ?_
  rintro e w1 ⟨rfl, hw⟩
  subst hw
  go_wp2_with fail
  refine (growIns_no g _ (Z3.out 24 (by decide) (by decide) (by decide))).mono ?_
  rintro e w1 ⟨rfl, hw⟩
  subst hw
  go_wp2_with fail
  refine (growEffect_no g _ (Z3.out 25 (by decide) (by decide) (by decide))).mono ?_
  rintro e w1 ⟨rfl, hw⟩
  subst hw
  go_wp2_with fail
  refine (growUpdate_no g _ (Z3.out 26 (by decide) (by decide) (by decide))).mono ?_
  rintro e w1 ⟨rfl, hw⟩
  subst hw
  go_wp2_with fail
  refine (growEvent_no g _ (Z3.out 27 (by decide) (by decide) (by decide))).mono ?_
  rintro e w1 ⟨rfl, hw⟩
  subst hw
  go_wp2_with fail
  refine (growOut_no g _ (Z3.out 28 (by decide) (by decide) (by decide))).mono ?_
  rintro e w1 ⟨rfl, hw⟩
  subst hw
  go_wp2_with fail
  refine (growRow_no g _ (Z3.out 29 (by decide) (by decide) (by decide))).mono ?_
  rintro e w1 ⟨rfl, hw⟩
  subst hw
  go_wp2_with fail
  refine (growArray_no g _ (Z3.out 30 (by decide) (by decide) (by decide))).mono ?_
  rintro e w1 ⟨rfl, hw⟩
  subst hw
  go_wp2_with fail
  refine (lookInt_no g _ (Z3.out 1 (by decide) (by decide) (by decide))).mono ?_
  rintro e w1 ⟨rfl, hw⟩
  subst hw
  go_wp2_with fail
  refine (lookByte_no g _ (Z3.out 2 (by decide) (by decide) (by decide))).mono ?_
  rintro e w1 ⟨rfl, hw⟩
  subst hw
  go_wp2_with fail
  refine (lookKind_no g _ (Z3.out 3 (by decide) (by decide) (by decide))).mono ?_
  rintro e w1 ⟨rfl, hw⟩
  subst hw
  go_wp2_with fail
  refine (lookText_no g _ (Z3.out 4 (by decide) (by decide) (by decide))).mono ?_
  rintro e w1 ⟨rfl, hw⟩
  subst hw
  go_wp2_with fail
  refine (lookBlob_no g _ (Z3.out 5 (by decide) (by decide) (by decide))).mono ?_
  rintro e w1 ⟨rfl, hw⟩
  subst hw
  go_wp2_with fail
  refine (lookNumber_no g _ (Z3.out 6 (by decide) (by decide) (by decide))).mono ?_
  rintro e w1 ⟨rfl, hw⟩
  subst hw
  go_wp2_with fail
  refine (lookWord_any HIS.out HBB.out B2.out G1.out NK.out).mono ?_
  rintro e W3 ⟨rfl, hb⟩
  have Z4 : Hid (∀ o, 1 ≤ o → o ≤ 30 → o ≠ 7 → W3.cell? ⟨g, o, none⟩ = some (.slice none 0 0)) := fun o h1 h2 h3 => (Fr.ofBelow (E := fun _ => False) hb).cell (Z3.out o h1 h2 h3) (fun e => e)
  have FR3 := hide (apartC_fr FR1.out FR2.out hb)
  clear hb FR1 FR2 G1 Z3
  go_wp2_with fail
  refine (lookField_no g _ (Z4.out 8 (by decide) (by decide) (by decide))).mono ?_
  rintro e w1 ⟨rfl, hw⟩
  subst hw
  go_wp2_with fail
  refine (lookMatch_no g _ (Z4.out 9 (by decide) (by decide) (by decide))).mono ?_
  rintro e w1 ⟨rfl, hw⟩
  subst hw
  go_wp2_with fail
  refine (lookArr_no g _ (Z4.out 10 (by decide) (by decide) (by decide))).mono ?_
  rintro e w1 ⟨rfl, hw⟩
  subst hw
  go_wp2_with fail
  refine (lookCase_no g _ (Z4.out 11 (by decide) (by decide) (by decide))).mono ?_
  rintro e w1 ⟨rfl, hw⟩
  subst hw
  go_wp2_with fail
  refine (lookJump_no g _ (Z4.out 12 (by decide) (by decide) (by decide))).mono ?_
  rintro e w1 ⟨rfl, hw⟩
  subst hw
  go_wp2_with fail
  refine (lookExpr_no g _ (Z4.out 13 (by decide) (by decide) (by decide))).mono ?_
  rintro e w1 ⟨rfl, hw⟩
  subst hw
  go_wp2_with fail
  refine (lookStmt_no g _ (Z4.out 14 (by decide) (by decide) (by decide))).mono ?_
  rintro e w1 ⟨rfl, hw⟩
  subst hw
  go_wp2_with fail
  refine (lookState_no g _ (Z4.out 15 (by decide) (by decide) (by decide))).mono ?_
  rintro e w1 ⟨rfl, hw⟩
  subst hw
  go_wp2_with fail
  refine (lookKey_no g _ (Z4.out 16 (by decide) (by decide) (by decide))).mono ?_
  rintro e w1 ⟨rfl, hw⟩
  subst hw
  go_wp2_with fail
  refine (lookDecl_no g _ (Z4.out 17 (by decide) (by decide) (by decide))).mono ?_
  rintro e w1 ⟨rfl, hw⟩
  subst hw
  go_wp2_with fail
  refine (lookEntry_no g _ (Z4.out 18 (by decide) (by decide) (by decide))).mono ?_
  rintro e w1 ⟨rfl, hw⟩
  subst hw
  go_wp2_with fail
  refine (lookGroup_no g _ (Z4.out 19 (by decide) (by decide) (by decide))).mono ?_
  rintro e w1 ⟨rfl, hw⟩
  subst hw
  go_wp2_with fail
  refine (lookHead_no g _ (Z4.out 20 (by decide) (by decide) (by decide))).mono ?_
  rintro e w1 ⟨rfl, hw⟩
  subst hw
  go_wp2_with fail
  refine (lookNode_no g _ (Z4.out 21 (by decide) (by decide) (by decide))).mono ?_
  rintro e w1 ⟨rfl, hw⟩
  subst hw
  go_wp2_with fail
  refine (lookAct_no g _ (Z4.out 22 (by decide) (by decide) (by decide))).mono ?_
  rintro e w1 ⟨rfl, hw⟩
  subst hw
  go_wp2_with fail
  refine (lookTable_no g _ (Z4.out 23 (by decide) (by decide) (by decide))).mono ?_
  rintro e w1 ⟨rfl, hw⟩
  subst hw
  go_wp2_with fail
  refine (lookIns_no g _ (Z4.out 24 (by decide) (by decide) (by decide))).mono ?_
  rintro e w1 ⟨rfl, hw⟩
  subst hw
  go_wp2_with fail
  refine (lookEffect_no g _ (Z4.out 25 (by decide) (by decide) (by decide))).mono ?_
  rintro e w1 ⟨rfl, hw⟩
  subst hw
  go_wp2_with fail
  refine (lookUpdate_no g _ (Z4.out 26 (by decide) (by decide) (by decide))).mono ?_
  rintro e w1 ⟨rfl, hw⟩
  subst hw
  go_wp2_with fail
  refine (lookEvent_no g _ (Z4.out 27 (by decide) (by decide) (by decide))).mono ?_
  rintro e w1 ⟨rfl, hw⟩
  subst hw
  go_wp2_with fail
  refine (lookOut_no g _ (Z4.out 28 (by decide) (by decide) (by decide))).mono ?_
  rintro e w1 ⟨rfl, hw⟩
  subst hw
  go_wp2_with fail
  refine (lookRow_no g _ (Z4.out 29 (by decide) (by decide) (by decide))).mono ?_
  rintro e w1 ⟨rfl, hw⟩
  subst hw
  go_wp2_with fail
  refine (lookArray_no g _ (Z4.out 30 (by decide) (by decide) (by decide))).mono ?_
  rintro e w1 ⟨rfl, hw⟩
  subst hw
  go_wp2
  go_ret
  exact ⟨rfl, FR3.out⟩
end Go.Proofs.YtfanhdjebmdniaaGreatDoor
