/- pointsmanlaw02.PacketBytes: its loop. -/
import Derived.Test.YtcpjibebloaohabPByW
namespace Go.Proofs.Ytcpjibebloaohab
open Go.RowKit

theorem new3_add (W : World) (x y z : Value) (t : TypeId) : ∀ j u, [x, y, z][j]? = some u → (W.alloc (.cells #[x, y, z] t)).cell? ((⟨W.heap.size, 0, none⟩ : Addr).add j) = some u := fun j u hu => by
  have h := new3 W x y z t
  rw [add_at, Nat.zero_add]
  match j, hu with
  | 0, hu => rw [h.1]; exact hu
  | 1, hu => rw [h.2.1]; exact hu
  | 2, hu => rw [h.2.2]; exact hu
theorem new3_two (W : World) (o : Obj) (x y z : Value) (t : TypeId) : ∀ j u, [x, y, z][j]? = some u → ((W.alloc o).alloc (.cells #[x, y, z] t)).cell? ((⟨W.heap.size + 1, 0, none⟩ : Addr).add j) = some u := by
  have h := new3_add (W.alloc o) x y z t
  rw [World.size_alloc] at h
  exact h
theorem own_moved {W W' : World} {B g n : Nat} {e : TypeId} {v : Value} {xs : List Value} (h : W.ownsRow B e 3 v n xs) (hm : Moved g W W') (hne : v.ownBlock ≠ some g) : W'.ownsRow B e 3 v n xs := by
  refine ⟨h.1, ?_⟩
  rcases h.2 with h0 | ⟨gr, cap, cur, rfl, hg, hcur, rest⟩
  · exact .inl h0
  · exact .inr ⟨gr, cap, cur, rfl, hg, (hm.block (Array.getElem?_eq_some_iff.1 hcur).1 (fun e => hne (by rw [e]; rfl))).trans hcur, rest⟩
theorem own_below {W W' : World} {B n : Nat} {e : TypeId} {v : Value} {xs : List Value} (h : W.ownsRow B e 3 v n xs) (hb : Below W.heap.size W W') : W'.ownsRow B e 3 v n xs := by
  refine ⟨h.1, ?_⟩
  rcases h.2 with h0 | ⟨gr, cap, cur, rfl, hg, hcur, rest⟩
  · exact .inl h0
  · exact .inr ⟨gr, cap, cur, rfl, hg, (hb.block _ (Array.getElem?_eq_some_iff.1 hcur).1).trans hcur, rest⟩
theorem al {W : World} (o : Obj) : Below W.heap.size W (W.alloc o) := (Below.refl _ W).alloc (Nat.le_refl _) o
theorem one3 (x y z : Int) : ∀ u ∈ [Value.int .i64 x, .int .u64 y, .int .u64 z], u.oneCell' = true := by
  intro u hu
  simp only [List.mem_cons, List.not_mem_nil, or_false] at hu
  rcases hu with rfl | rfl | rfl <;> rfl
structure PB (w W : World) (g : Nat) (a : Option Addr) (c : Nat) (xs : List Nat) (t : Nat) (L : List (Int × Nat)) (v : Value) : Prop where
  below : Below w.heap.size w W
  cur : Cur W g a c xs t
  held : Held xs L t
  le : t ≤ 8 * xs.length
  own : W.ownsRow w.heap.size 32 3 v L.length (cellsL L)
  ne : v.ownBlock ≠ some g
  nq : ∀ q, a = some q → v.ownBlock ≠ some q.block
theorem PB.next {w W W' : World} {g : Nat} {a : Option Addr} {c : Nat} {xs : List Nat} {t : Nat} {L : List (Int × Nat)} {v : Value} (h : PB w W g a c xs t L v) (hb : Below W.heap.size W W') : PB w W' g a c xs t L v :=
  ⟨h.below.trans (hb.mono h.below.size), h.cur.keep hb, h.held, h.le, own_below h.own hb, h.ne, h.nq⟩
theorem Cur.grown {W W' : World} {g : Nat} {a : Option Addr} {c : Nat} {xs : List Nat} {t : Nat} {row : Option Nat} (h : Cur W g a c xs t) (hg : W.grownBy W' row) (h1 : row ≠ some g) (h2 : ∀ q, a = some q → row ≠ some q.block) : Cur W' g a c xs t :=
  have hb := hg.block g h.lt (Ne.symm h1)
  ⟨Nat.lt_of_lt_of_le h.lt hg.size, (World.cell?_of_block (w := W) (a := ⟨g, 0, none⟩) hb).trans h.c0, (World.frozen?_of_block (w := W) (a := ⟨g, 0, none⟩) hb).trans h.f0, (World.cell?_of_block (w := W) (a := ⟨g, 1, none⟩) hb).trans h.c1, (World.cell?_of_block (w := W) (a := ⟨g, 2, none⟩) hb).trans h.c2, h.rd.keep hg.size (fun q e => hg.block _ (h.rd.lt q e) (Ne.symm (h2 q e))), h.ne⟩
/- What a round leaves. -/
theorem PB.step {w W W' : World} {g V : Nat} {a : Option Addr} {c : Nat} {xs : List Nat} {t : Nat} {L : List (Int × Nat)} {v v' : Value} (B : Below w.heap.size w W) (K : Cur W g a c xs (t + V)) (hH : Held xs L t) (n1 : 1 ≤ V) (n2 : V ≤ 128) (hle : t + V ≤ 8 * xs.length) (hO : W.ownsRow w.heap.size 32 3 v L.length (cellsL L)) (hne : v.ownBlock ≠ some g) (hnq : ∀ q, a = some q → v.ownBlock ≠ some q.block)
    (hown : W'.ownsRow w.heap.size 32 3 v' (L.length + 1) (cellsL L ++ [.int .i64 (V : Nat), .int .u64 (wHi (bval xs t V)), .int .u64 (wLo (bval xs t V))])) (hg : W.grownBy W' v.ownBlock) (hblk : v'.ownBlock = v.ownBlock ∨ v'.ownBlock = some W.heap.size) : PB w W' g a c xs (t + V) (L ++ [((V : Int), bval xs t V)]) v' :=
  ⟨B.grown hg B.size (fun k e => (hO.lt k e).1), K.grown hg hne hnq, hH.step n1 n2, hle, by rw [cellsL_snoc, List.length_append, List.length_singleton]; exact hown,
    by rcases hblk with e | e
       · rw [e]; exact hne
       · rw [e]; intro h; have := K.lt; simp only [Option.some.injEq] at h; omega,
    fun q e => by
      rcases hblk with e' | e'
      · rw [e']; exact hnq q e
      · rw [e']; intro h; have := K.rd.lt q e; simp only [Option.some.injEq] at h; omega⟩
set_option maxHeartbeats 4000000 in
theorem pby_yes (a : Option Addr) (n cap : Nat) (xs : List Nat) (a2 : Option Addr) (n2 cap2 : Nat) (zs : List Nat) (w : World) (hv : BySl w (.slice a n cap) xs) (hn : n = xs.length) (hx : ∀ y ∈ xs, y < 256) (hl : xs.length ≤ 1000)
    (hv2 : BySl w (.slice a2 n2 cap2) zs) (hn2 : n2 = zs.length) (hz : ∀ y ∈ zs, y < 256) :
    Calls Try.prog 3 #[.slice a n cap, .slice a2 n2 cap2] w fun e w' => e = .returned (.bool true) ∧ Below w.heap.size w w' := by
  have H := hide palive_any
  have HV := hide hv; have HV2 := hide hv2
  have hI : (n : Int) ≤ 1000 := by omega
  have hN := hide hn; have hN2 := hide hn2
  obtain ⟨i0, hi0, hz0, hz1, hzz⟩ := info_parts Try.infoB
  clear hv hv2 hn hn2
  go_enter Try.func3, Try.ntmps3
  go_wp2_with fail
  refine (H.out _).mono ?_
  rintro e w1 ⟨rfl, hb1⟩
  have B1 := hide hb1
  clear hb1
  go_wp2_with fail
  refine (new_any _ _ xs (HV.out.below B1.out (Nat.le_refl _)) (by omega)).mono ?_
  rintro e w2 ⟨g, b1, c1, rfl, hg, hq, k2, hb2⟩
  have hgw : w.heap.size ≤ g := by have := B1.out.size; omega
  have P2 : Hid (PB w w2 g b1 c1 xs 0 [] (.slice none 0 0)) := ⟨B1.out.trans (hb2.mono B1.out.size), k2, Held.nil xs, Nat.zero_le _, World.ownsRow_nil _ _ _ _, by simp [Value.ownBlock], fun q _ => by simp [Value.ownBlock]⟩
  have HQ := hide hq
  clear k2 hb2 B1 hq hg
  go_wp2
  go_loopw [7, 8] (fun v i wr => ∃ (t : Nat) (L : List (Int × Nat)), i = .int .i64 (L.length : Nat) ∧ PB w wr g b1 c1 xs t L v) (fun v i _ => 8 * xs.length - (intOf i).toNat)
  case atStart => exact ⟨0, [], rfl, P2.out⟩
  case round =>
    obtain ⟨t, L, rfl, hpb⟩ := hrel
    have P := hide hpb
    clear hpb P2
    obtain ⟨lf, hlf⟩ : ∃ lf, lf = 8 * xs.length - t := ⟨_, rfl⟩
    have HLf : Hid (∀ W, Cur W g b1 c1 xs t → Calls Try.prog 6 #[.pointer (some ⟨g, 0, none⟩)] W fun e w' => e = .returned (.int .i64 (lf : Nat)) ∧ Below W.heap.size W w') := fun W hW => by
      have h := left_any hW (by omega) P.out.le
      rw [← hlf] at h; exact h
    have HF := hide hlf
    clear hlf
    go_wp2_with fail
    refine (HLf.out _ P.out.cur).mono ?_
    rintro e w3 ⟨rfl, hb3⟩
    have P3 := hide (P.out.next hb3)
    clear hb3
    by_cases hlt : 0 < lf
    · have hltI : (lf : Int) > 0 := by omega
      have key : ∃ wv : Nat, 1 ≤ wv ∧ wv ≤ 128 ∧ ((n2 = 0 ∧ wv = 8) ∨ (0 < n2 ∧ ∃ p off z r : Nat, a2 = some ⟨p, off, none⟩ ∧ z < 256 ∧ r < n2 ∧ r = L.length % n2 ∧ w.cell? ⟨p, off + r, none⟩ = some (.int .u8 (z : Nat)) ∧ wv = 1 + z % 128)) := by
        have hnn := hN2.out
        by_cases h0 : n2 = 0
        · exact ⟨8, by decide, by decide, .inl ⟨h0, rfl⟩⟩
        · rcases HV2.out with ⟨e1, e2⟩ | ⟨p, off, cc, e1, hc⟩
          · rw [e2] at hnn; exact absurd hnn h0
          · have hr := Nat.mod_lt L.length (show 0 < n2 by omega)
            have hr' : L.length % n2 < zs.length := by omega
            refine ⟨1 + zs[L.length % n2] % 128, by omega, by have := Nat.mod_lt zs[L.length % n2] (by decide : 128 > 0); omega, .inr ⟨by omega, p, off, zs[L.length % n2], L.length % n2, ?_, hz _ (List.getElem_mem hr'), hr, rfl, hc _ hr', rfl⟩⟩
            simp at e1; exact e1.1
      obtain ⟨wv, hw1, hw2, key⟩ := key
      have HW1 := hide hw1; have HW2 := hide hw2
      clear hw1 hw2
      rcases key with ⟨rfl, hwv⟩ | ⟨hpos, p, off, z, r, rfl, hz3, hr1, hr2, hcell, hwv⟩
      · by_cases hle : 8 ≤ lf
        · have hleI : (8 : Int) ≤ (lf : Int) := by omega
          have HM : Hid (1 ≤ 8 ∧ 8 ≤ 128 ∧ 8 ≤ lf) := ⟨by decide, by decide, hle⟩
          go_wp2_with fail
          refine (HLf.out _ P3.out.cur).mono ?_
          rintro e w4 ⟨rfl, hb4⟩
          have P4 := hide (P3.out.next hb4)
          clear hb4
          have HTk := hide (take_yes (n := 8) P4.out.cur hx (by omega) HM.out.1 HM.out.2.1 (by have h1 := HM.out.2.2; have h2 := HF.out; have h3 := P4.out.le; omega))
          go_wp2_with fail
          refine HTk.out.mono ?_
          rintro e w5 ⟨rfl, m5, k5⟩
          have own5 := hide (own_moved P4.out.own m5 P4.out.ne)
          have B5 := hide (P4.out.below.trans (m5.below hgw P4.out.below.size))
          have X1 := hide (al (W := w5) (.cells #[.int .i64 (8 : Nat), .int .u64 (wHi (bval xs t 8)), .int .u64 (wLo (bval xs t 8))] 32))
          have hLl : L.length ≤ 8000 := by have h1 := P4.out.held.len; have h2 := P4.out.le; omega
          have K5 := hide k5
          clear m5 k5
          go_wp2_with (at_builtin; refine wpList_append_own_at _ rfl _ _ 28 rfl w.heap.size 32 i0 (.agg #[.int .i64 0, .int .u64 0, .int .u64 0]) 3 24 Try.underlying28 hi0 hz0 hz1 hzz rfl (by decide) _ L.length (cellsL L) rfl ((own5.out.alloc _).alloc _) ⟨w5.heap.size + 1, 0, none⟩ 1 1 [.int .i64 (8 : Nat), .int .u64 (wHi (bval xs t 8)), .int .u64 (wLo (bval xs t 8))] rfl rfl (new3_two _ _ _ _ _ _) (one3 _ _ _) (by unfold maxLen; omega) (by omega) (by have := B5.out.size; simp; omega) ?_; intro v' w7 hown hgr hnl hblk)
          have hM := HM.out
          have hFF := HF.out
          have hPle := P4.out.le
          have hPlen := P4.out.held.len
          go_roundw
          case rel => exact ⟨t + 8, L ++ [(((8 : Nat) : Int), bval xs t 8)], by rw [List.length_append, List.length_singleton]; go_num, PB.step ((B5.out.alloc B5.out.size _).alloc (by have := B5.out.size; simp; omega) _) ((K5.out.keep (al _)).keep (al _)) P4.out.held hM.1 hM.2.1 (by omega) ((own5.out.alloc _).alloc _) P4.out.ne P4.out.nq hown hgr hblk⟩
          case measure => simp [intOf]; omega
        · have hleI : (lf : Int) < 8 := by omega
          have HM : Hid (1 ≤ lf ∧ lf ≤ 128 ∧ lf ≤ lf) := by unfold Hid; omega
          go_wp2_with fail
          refine (HLf.out _ P3.out.cur).mono ?_
          rintro e w4 ⟨rfl, hb4⟩
          have P4 := hide (P3.out.next hb4)
          clear hb4
          have HTk := hide (take_yes (n := lf) P4.out.cur hx (by omega) HM.out.1 HM.out.2.1 (by have h1 := HM.out.2.2; have h2 := HF.out; have h3 := P4.out.le; omega))
          go_wp2_with fail
          refine HTk.out.mono ?_
          rintro e w5 ⟨rfl, m5, k5⟩
          have own5 := hide (own_moved P4.out.own m5 P4.out.ne)
          have B5 := hide (P4.out.below.trans (m5.below hgw P4.out.below.size))
          have X1 := hide (al (W := w5) (.cells #[.int .i64 (lf : Nat), .int .u64 (wHi (bval xs t lf)), .int .u64 (wLo (bval xs t lf))] 32))
          have hLl : L.length ≤ 8000 := by have h1 := P4.out.held.len; have h2 := P4.out.le; omega
          have K5 := hide k5
          clear m5 k5
          go_wp2_with (at_builtin; refine wpList_append_own_at _ rfl _ _ 28 rfl w.heap.size 32 i0 (.agg #[.int .i64 0, .int .u64 0, .int .u64 0]) 3 24 Try.underlying28 hi0 hz0 hz1 hzz rfl (by decide) _ L.length (cellsL L) rfl ((own5.out.alloc _).alloc _) ⟨w5.heap.size + 1, 0, none⟩ 1 1 [.int .i64 (lf : Nat), .int .u64 (wHi (bval xs t lf)), .int .u64 (wLo (bval xs t lf))] rfl rfl (new3_two _ _ _ _ _ _) (one3 _ _ _) (by unfold maxLen; omega) (by omega) (by have := B5.out.size; simp; omega) ?_; intro v' w7 hown hgr hnl hblk)
          have hM := HM.out
          have hFF := HF.out
          have hPle := P4.out.le
          have hPlen := P4.out.held.len
          go_roundw
          case rel => exact ⟨t + lf, L ++ [(((lf : Nat) : Int), bval xs t lf)], by rw [List.length_append, List.length_singleton]; go_num, PB.step ((B5.out.alloc B5.out.size _).alloc (by have := B5.out.size; simp; omega) _) ((K5.out.keep (al _)).keep (al _)) P4.out.held hM.1 hM.2.1 (by omega) ((own5.out.alloc _).alloc _) P4.out.ne P4.out.nq hown hgr hblk⟩
          case measure => simp [intOf]; omega
      · have hposI : (n2 : Int) > 0 := by omega
        have hri : (L.length : Int) % (n2 : Int) = (r : Int) := by rw [hr2]; simp
        have hwe : 1 + (z : Int) % 128 = (wv : Int) := by omega
        have hrI : (r : Int) < (n2 : Int) := by omega
        have hzI : (z : Int) < 256 := by omega
        have c3 : w3.cell? ⟨p, off + r, none⟩ = some (.int .u8 (z : Nat)) := (P3.out.below.cell (p := ⟨p, off + r, none⟩) (World.block_lt_of_cell? w _ hcell)).trans hcell
        have HR2 := hide hr2; have HWV := hide hwv
        clear hr2 hwv hcell
        by_cases hle : wv ≤ lf
        · have hleI : (wv : Int) ≤ (lf : Int) := by omega
          have HM : Hid (1 ≤ wv ∧ wv ≤ 128 ∧ wv ≤ lf) := by have h1 := HW1.out; have h2 := HW2.out; unfold Hid; omega
          go_wp2_with fail
          refine (HLf.out _ P3.out.cur).mono ?_
          rintro e w4 ⟨rfl, hb4⟩
          have P4 := hide (P3.out.next hb4)
          clear hb4
          have HTk := hide (take_yes (n := wv) P4.out.cur hx (by omega) HM.out.1 HM.out.2.1 (by have h1 := HM.out.2.2; have h2 := HF.out; have h3 := P4.out.le; omega))
          go_wp2_with fail
          refine HTk.out.mono ?_
          rintro e w5 ⟨rfl, m5, k5⟩
          have own5 := hide (own_moved P4.out.own m5 P4.out.ne)
          have B5 := hide (P4.out.below.trans (m5.below hgw P4.out.below.size))
          have X1 := hide (al (W := w5) (.cells #[.int .i64 (wv : Nat), .int .u64 (wHi (bval xs t wv)), .int .u64 (wLo (bval xs t wv))] 32))
          have hLl : L.length ≤ 8000 := by have h1 := P4.out.held.len; have h2 := P4.out.le; omega
          have K5 := hide k5
          clear m5 k5
          go_wp2_with (at_builtin; refine wpList_append_own_at _ rfl _ _ 28 rfl w.heap.size 32 i0 (.agg #[.int .i64 0, .int .u64 0, .int .u64 0]) 3 24 Try.underlying28 hi0 hz0 hz1 hzz rfl (by decide) _ L.length (cellsL L) rfl ((own5.out.alloc _).alloc _) ⟨w5.heap.size + 1, 0, none⟩ 1 1 [.int .i64 (wv : Nat), .int .u64 (wHi (bval xs t wv)), .int .u64 (wLo (bval xs t wv))] rfl rfl (new3_two _ _ _ _ _ _) (one3 _ _ _) (by unfold maxLen; omega) (by omega) (by have := B5.out.size; simp; omega) ?_; intro v' w7 hown hgr hnl hblk)
          have hM := HM.out
          have hFF := HF.out
          have hPle := P4.out.le
          have hPlen := P4.out.held.len
          go_roundw
          case rel => exact ⟨t + wv, L ++ [(((wv : Nat) : Int), bval xs t wv)], by rw [List.length_append, List.length_singleton]; go_num, PB.step ((B5.out.alloc B5.out.size _).alloc (by have := B5.out.size; simp; omega) _) ((K5.out.keep (al _)).keep (al _)) P4.out.held hM.1 hM.2.1 (by omega) ((own5.out.alloc _).alloc _) P4.out.ne P4.out.nq hown hgr hblk⟩
          case measure => simp [intOf]; omega
        · have hleI : (lf : Int) < (wv : Int) := by omega
          have HM : Hid (1 ≤ lf ∧ lf ≤ 128 ∧ lf ≤ lf) := by have h1 := HW1.out; have h2 := HW2.out; unfold Hid; omega
          go_wp2_with fail
          refine (HLf.out _ P3.out.cur).mono ?_
          rintro e w4 ⟨rfl, hb4⟩
          have P4 := hide (P3.out.next hb4)
          clear hb4
          have HTk := hide (take_yes (n := lf) P4.out.cur hx (by omega) HM.out.1 HM.out.2.1 (by have h1 := HM.out.2.2; have h2 := HF.out; have h3 := P4.out.le; omega))
          go_wp2_with fail
          refine HTk.out.mono ?_
          rintro e w5 ⟨rfl, m5, k5⟩
          have own5 := hide (own_moved P4.out.own m5 P4.out.ne)
          have B5 := hide (P4.out.below.trans (m5.below hgw P4.out.below.size))
          have X1 := hide (al (W := w5) (.cells #[.int .i64 (lf : Nat), .int .u64 (wHi (bval xs t lf)), .int .u64 (wLo (bval xs t lf))] 32))
          have hLl : L.length ≤ 8000 := by have h1 := P4.out.held.len; have h2 := P4.out.le; omega
          have K5 := hide k5
          clear m5 k5
          go_wp2_with (at_builtin; refine wpList_append_own_at _ rfl _ _ 28 rfl w.heap.size 32 i0 (.agg #[.int .i64 0, .int .u64 0, .int .u64 0]) 3 24 Try.underlying28 hi0 hz0 hz1 hzz rfl (by decide) _ L.length (cellsL L) rfl ((own5.out.alloc _).alloc _) ⟨w5.heap.size + 1, 0, none⟩ 1 1 [.int .i64 (lf : Nat), .int .u64 (wHi (bval xs t lf)), .int .u64 (wLo (bval xs t lf))] rfl rfl (new3_two _ _ _ _ _ _) (one3 _ _ _) (by unfold maxLen; omega) (by omega) (by have := B5.out.size; simp; omega) ?_; intro v' w7 hown hgr hnl hblk)
          have hM := HM.out
          have hFF := HF.out
          have hPle := P4.out.le
          have hPlen := P4.out.held.len
          go_roundw
          case rel => exact ⟨t + lf, L ++ [(((lf : Nat) : Int), bval xs t lf)], by rw [List.length_append, List.length_singleton]; go_num, PB.step ((B5.out.alloc B5.out.size _).alloc (by have := B5.out.size; simp; omega) _) ((K5.out.keep (al _)).keep (al _)) P4.out.held hM.1 hM.2.1 (by omega) ((own5.out.alloc _).alloc _) P4.out.ne P4.out.nq hown hgr hblk⟩
          case measure => simp [intOf]; omega
    · obtain ⟨b, cp, a3, hv3, hR, ha3⟩ := own_read P3.out.own
      subst hv3
      obtain rfl : lf = 0 := by omega
      have ht : t = 8 * xs.length := by have h1 := HF.out; have h2 := P3.out.le; omega
      subst ht
      have HPut := hide (put_yes b 0 cp L w3 hR P3.out.held.top (by have := P3.out.held.len; omega) (by rw [P3.out.held.sum]; omega) P3.out.held.ok a3 ha3)
      have HRest : Hid (∀ W, Cur W g b1 c1 xs (8 * xs.length) → Calls Try.prog 10 #[.pointer (some ⟨g, 0, none⟩)] W fun e w' => ∃ a' c', e = .returned (.slice a' 0 c') ∧ Below W.heap.size W w') := fun W hW => by
        rcases HQ.out with ⟨hc, ⟨rfl, rfl⟩ | ⟨q, rfl⟩⟩
        · have hx0 : xs = [] := List.length_eq_zero_iff.1 (by omega)
          subst hx0
          exact (rest_nil hW rfl).mono (fun e w' ⟨h1, h2⟩ => ⟨none, 0, h1, h2⟩)
        · have h := rest_some (k := xs.length) hW hc (by omega) (Nat.le_refl _) (by omega)
          rw [Nat.sub_self] at h
          exact h.mono (fun e w' ⟨q6, c6, h1, _, h2⟩ => ⟨some ⟨q6, 0, none⟩, c6, h1, h2⟩)
      have HH := hide P3.out.held
      have C3 := hide P3.out.cur; have B3 := hide P3.out.below
      clear hR ha3 HLf P hlt
      go_wp2_with fail
      refine HPut.out.mono ?_
      rintro e w8 ⟨gp, N, ys, hNN, rfl, hpk, hr, _, _, hb8⟩
      have hN8 : N = xs.length := by rw [hNN, HH.out.sum]; omega
      have hys := bytes_same hpk HH.out hN8 hx
      subst hys
      have C8 := hide (C3.out.keep hb8); have B8 := hide (B3.out.trans (hb8.mono B3.out.size))
      have HR := hide hr
      subst hN8
      have HSame := hide (same_any (c := ys.length) hl HR.out (HV.out.below B8.out (Nat.le_refl _)))
      clear hb8 hpk hr hNN
      go_wp2_with fail
      refine HSame.out.mono ?_
      rintro e w9 ⟨rfl, hb9⟩
      have C9 := hide (C8.out.keep hb9); have B9 := hide (B8.out.trans (hb9.mono B8.out.size))
      clear hb9
      go_wp2_with fail
      refine (HRest.out _ C9.out).mono ?_
      rintro e w10 ⟨a', c', rfl, hb10⟩
      have B10 := hide (B9.out.trans (hb10.mono B9.out.size))
      clear hb10
      go_wp2
      go_ret
      exact ⟨rfl, B10.out⟩
end Go.Proofs.Ytcpjibebloaohab
