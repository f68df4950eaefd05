/- growByte of a Book: its loops. -/
import Derived.Test.YtlddnpgcoekaaaaGreatDoorBkG
namespace Go.Proofs.YtlddnpgcoekaaaaGreatDoor
open Go.RowKit

theorem Own8.slc {W : World} {B : Nat} {v : Value} {xs : List Nat} (h : Own8 W B v xs) : ∃ a n c, v = .slice a n c := by
  obtain ⟨a, c, h, _⟩ := h.shape
  exact ⟨a, _, c, h⟩
theorem Gr.step {W W1 wi : World} {B g n k r cap : Nat} {N : Nat} {hs ks : List Hb} {lv : Value} (hN : ks.length = N) (h : Gr W W1 B g (.slice (some ⟨r, 0, none⟩) N cap) n hs ks k) (hk : k < ks.length) (hi : GIn W1 wi B ks[k].v lv ks[k].xs.length ks[k].m 40) :
    Gr W (wi.setCell ⟨r, 3 * k + 1, none⟩ lv) B g (.slice (some ⟨r, 0, none⟩) N cap) n hs (ks.set k { ks[k] with vl := lv }) (k + 1) := by
  subst hN
  have hrW : r < W1.heap.size := (h.bk.vlt r rfl).2
  have sb := h.sep.b
  have hset : Fr (fun b => b = r) wi (wi.setCell ⟨r, 3 * k + 1, none⟩ lv) := (Fr.refl _ wi).set _ _ rfl
  have gv : ∀ j (hj : j < (ks.set k { ks[k] with vl := lv }).length), (ks.set k { ks[k] with vl := lv })[j].v = (ks[j]'(by simpa using hj)).v ∧ (ks.set k { ks[k] with vl := lv })[j].m = (ks[j]'(by simpa using hj)).m ∧ (ks.set k { ks[k] with vl := lv })[j].xs = (ks[j]'(by simpa using hj)).xs := fun j hj => by
    rw [List.getElem_set]; split
    · rename_i e; subst e; exact ⟨rfl, rfl, rfl⟩
    · exact ⟨rfl, rfl, rfl⟩
  have gk : ∀ (hj : k < (ks.set k { ks[k] with vl := lv }).length), (ks.set k { ks[k] with vl := lv })[k].vl = lv := fun hj => by rw [List.getElem_set_self]
  have gn : ∀ j (hj : j < (ks.set k { ks[k] with vl := lv }).length), j ≠ k → (ks.set k { ks[k] with vl := lv })[j].vl = (ks[j]'(by simpa using hj)).vl := fun j hj hne => by
    rw [List.getElem_set_ne (by omega)]
  have vr : ∀ j (hj : j < ks.length) b, ks[j].v.ownBlock = some b → b ≠ r := fun j hj b hb e => sb _ (List.getElem_mem hj) b hb (by rw [e]; rfl)
  have hbk : Bk wi B g (.slice (some ⟨r, 0, none⟩) ks.length cap) n ks := h.bk.fr hi.fr (h.sep.g _ (List.getElem_mem hk)) (fun b hb e => sb _ (List.getElem_mem hk) b e hb)
  have lr : ∀ b, lv.ownBlock = some b → b ≠ r := fun b hb => by
    rcases hi.bl b hb with e | e
    · exact vr k hk b e
    · omega
  refine ⟨hbk.put hk lv, h.sep.set hk lv, fun x hx => ?_, fun j hj hjk => ?_, fun j hj hjk => ?_, ?_, fun b hb => ?_⟩
  · obtain ⟨j, hj, rfl⟩ := List.getElem_of_mem hx
    have hj' : j < ks.length := by simpa using hj
    obtain ⟨_, g2, g3⟩ := gv j hj
    have hl := h.lim _ (List.getElem_mem hj')
    rw [g2, g3]
    refine ⟨hl.1, hl.2.1, ?_⟩
    by_cases e : j = k
    · subst e; rw [gk]; exact hi.ow.slc
    · rw [gn j hj e]; exact hl.2.2
  · have hj' : j < ks.length := by simpa using hj
    obtain ⟨g1, g2, g3⟩ := gv j hj
    by_cases e : j = k
    · subst e
      rw [gk, g1, g2, g3]
      refine ⟨hi.ow.fr hset (fun b hb e => lr b hb e), hi.rd.fr hset (fun b hb e => vr j hj' b hb e), fun b hb e => lr b hb (by injection e with e; exact e.symm), fun i hii hji b hb => ?_⟩
      have hi' : i < ks.length := by simpa using hii
      rw [(gv i hii).1]
      rcases hi.bl b hb with e | e
      · exact h.sep.p j i hj' hi' (by omega) b e
      · intro e2; have := (World.ownsRow.lt (h.td i hi' (by omega)) b e2).2; omega
    · obtain ⟨d1, d2, d3, d4⟩ := h.dn j hj' (by omega)
      rw [gn j hj e, g1, g2, g3]
      refine ⟨(d1.fr hi.fr (fun b hb e => d4 k hk (Nat.le_refl _) b hb e)).fr hset (fun b hb e => d3 b hb (by rw [e]; rfl)), (d2.fr hi.fr (fun b hb e' => h.sep.p j k hj' hk e b hb e')).fr hset (fun b hb e => vr j hj' b hb e), d3, fun i hii hji b hb => ?_⟩
      rw [(gv i hii).1]
      exact d4 i (by simpa using hii) (by omega) b hb
  · have hj' : j < ks.length := by simpa using hj
    obtain ⟨g1, g2, g3⟩ := gv j hj
    rw [g1, g2, g3]
    exact ((h.td j hj' (by omega)).fr hi.fr (fun b hb e => h.sep.p j k hj' hk (by omega) b hb e)).fr hset (fun b hb e => vr j hj' b hb e)
  · exact (h.fr.trans hi.fr (fun b _ e => .inl (h.le b ⟨_, List.getElem_mem hk, e⟩))).set _ _ (.inr rfl)
  · obtain ⟨x, hx, e⟩ := hb
    obtain ⟨j, hj, rfl⟩ := List.getElem_of_mem hx
    rw [(gv j hj).1] at e
    exact h.le b ⟨_, List.getElem_mem _, e⟩
set_option maxRecDepth 100000 in
set_option maxHeartbeats 2000000 in
theorem growByte_any {W : World} {B g n : Nat} {vb : Value} {hs : List Hb} (h : Gr W W B g vb n hs hs 0) (hn : hs.length ≤ 1000000) :
    Calls Tryz.prog 58 #[.pointer (some ⟨g, 0, none⟩)] W fun e W' => e = .returned (.tuple #[]) ∧ ∃ ks, ks.length = hs.length ∧ Gr W W' B g vb n hs ks ks.length := by
  have H0 := hide h
  obtain ⟨av, nv, cv, hv⟩ : ∃ a n' c, vb = .slice a n' c := by
    rcases h.bk.row.2 with ⟨e, _⟩ | ⟨r, cap, cur, e, _⟩ <;> exact ⟨_, _, _, e⟩
  have hnv : nv = hs.length := by
    rcases h.bk.row.2 with ⟨e, e2⟩ | ⟨r, cap, cur, e, _⟩
    · rw [hv] at e; cases e; exact e2.symm
    · rw [hv] at e; cases e; rfl
  subst hv hnv
  clear h
  generalize hN : hs.length = N at *
  have HN := hide hN
  clear hN
  go_enter Tryz.func58, Tryz.ntmps58
  go_wp2
  go_loopg [2] N (fun gk i wr => ∃ (k : Nat) (ks : List Hb), k + gk = N ∧ i = .int .i64 k ∧ ks.length = N ∧ Gr W wr B g (.slice av N cv) n hs ks k)
  case atStart => exact ⟨0, hs, by omega, rfl, HN.out, H0.out⟩
  case round =>
    obtain ⟨k, ks, hk, rfl, hksl, hG⟩ := hrel
    have HK := hide hksl
    have HKG := hide hk
    have G1 := hide hG
    have c2 := hG.bk.c2
    clear hG H0 hksl
    by_cases hlt : k < N
    · have hlt' : k < ks.length := by have := HK.out; omega
      obtain ⟨r, cap, hv, hr, _, hcap, r0, r1, r2, rs⟩ := G1.out.bk.at hlt'
      injection hv with hv1 hv2 hv3
      clear hv2
      subst hv1 hv3
      have hkI : (k : Int) < (N : Int) := by omega
      have dk : decide (k < N) = true := by simp; omega
      have hlim := G1.out.lim _ (List.getElem_mem hlt')
      have hown := G1.out.td k hlt' (Nat.le_refl _)
      have hb1 : Below wr.heap.size wr (wr.alloc (.cells #[ks[k].v, ks[k].vl, .int .i64 ks[k].m] 95)) := (Below.refl _ _).alloc (Nat.le_refl _) _
      have G2 := hide (G1.out.next hb1)
      have hsep := G1.out.sep
      have HBK := hide (fun (wi : World) (hf : Fr (fun b => ks[k].v.ownBlock = some b) _ wi) => (G2.out.bk.fr hf (hsep.g _ (List.getElem_mem hlt')) (fun b hb e => hsep.b _ (List.getElem_mem hlt') b e hb)))
      have HST := hide (fun (wi : World) (lv : Value) => G2.out.step (wi := wi) (lv := lv) HK.out hlt')
      have HM := hide (fun W => mark_any ks[k].m hlim.2.1 W)
      have HI : Hid (GIn _ _ B ks[k].v ks[k].v ks[k].xs.length ks[k].m 0) := ⟨hown.below hb1, (hown.below hb1).rdV, Fr.refl _ _, fun b hb => .inl hb⟩
      have hnc : ¬ ks[k].v.ownBlock = some wr.heap.size := fun e => by have := (World.ownsRow.lt hown _ e).2; omega
      have hsz := hb1.size
      have hBW : B ≤ wr.heap.size := by have := G1.out.bk.gB; have := G1.out.bk.lt; omega
      obtain ⟨e0, e1, e2⟩ := box3 wr ks[k].v ks[k].vl (.int .i64 ks[k].m) 95
      have HAT := hide (fun (w' : World) (hb : Bk w' B g (.slice (some ⟨r, 0, none⟩) N cv) n ks) => hb.at hlt')
      have hsl := hown.slc
      obtain ⟨hx1, hx2, hx3⟩ := hlim
      clear hb1 hsep hown
      generalize hxk : ks[k] = x at *
      obtain ⟨v, vl, m, xs⟩ := x
      simp only at *
      obtain ⟨a1, n1, c1, hv1⟩ := hsl
      obtain ⟨al, nl, cl, hvl⟩ := hx3
      subst hv1 hvl
      generalize hW1 : wr.alloc (.cells #[.slice a1 n1 c1, .slice al nl cl, .int .i64 m] 95) = W1 at *
      have HW1 := hide hW1
      have HNC := hide hnc
      have HSZ := hide hsz
      clear hW1 hxk hsz
      rw [Nat.mul_comm] at r0 r1 r2
      obtain ⟨go, hgo⟩ : ∃ go, go = gk := ⟨_, rfl⟩
      subst hgo
      clear hk
      go_wp2
      rw [HW1.out]
      clear HW1 G1 G2
      generalize wr.heap.size = c at *
      go_loopg [4, 5] 40 (fun gk lv j wi => ∃ q : Nat, q + gk = 40 ∧ j = .int .i64 q ∧ GIn W1 wi B (.slice a1 n1 c1) lv xs.length m q)
      case atStart => exact ⟨0, by omega, rfl, HI.out⟩
      case round =>
        obtain ⟨q, hq, rfl, hin⟩ := hrel
        have HIN := hide hin
        obtain ⟨a2, n2, c2', hv2⟩ := hin.ow.slc
        subst hv2
        have f2 := hin.fr.cell e2 HNC.out
        have HQ := hide hq
        by_cases hqt : q < 40
        · have hqI : (q : Int) < 40 := by omega
          have dq : decide (q < 40) = true := by simp; omega
          clear hin e0 e1 e2 r0 r1 r2 c2 rs HST HBK HAT hnc hq
          go_wp2_with (first
            | (go_at_call 123; refine (HM.out _).mono ?_; rintro e w7 ⟨rfl, hw⟩; subst hw)
            | (at_builtin; refine wpList_app1 rfl _ _ rfl B _ (List.replicate (xs.length + q) (mk8 m)) rfl (HIN.out.ow.below ((Below.refl _ _).alloc (Nat.le_refl _) _)) _ (mk8 m) rfl (one_rd _ (mk8 m) _) (by simp; omega) (by have := HIN.out.fr.size; have := HSZ.out; simp; omega) ?_; intro v8 w8 O8 D8; have I8 := hide ((HIN.out.next ((Below.refl _ _).alloc (Nat.le_refl _) _)).step O8 D8); clear O8 D8))
          go_roundg (gk - 1)
          case measure => have := HQ.out; omega
          case rel => exact ⟨q + 1, by have := HQ.out; omega, by go_num, I8.out⟩
        · obtain rfl : q = 40 := by omega
          have dq : decide (40 < 40) = false := by simp
          have hB := HBK.out _ hin.fr
          obtain ⟨r', cap', hv', _, _, _, s0, s1, s2, ss⟩ := HAT.out _ hB
          injection hv' with hv1 hv2 hv3
          injection hv1 with hv1
          injection hv1 with hv1
          clear hv2
          subst hv1 hv3
          have c2n := hB.c2
          rw [Nat.mul_comm] at s0 s1 s2
          have ssk := ss (k * 3 + 1)
          have R9 := hide (HST.out wr _ HIN.out)
          rw [Nat.mul_comm 3 k] at R9
          have HLE : Hid ((ks.set k ⟨.slice a1 n1 c1, .slice a2 n2 c2', m, xs⟩).length = N) := by show _ = _; rw [List.length_set]; exact HK.out
          clear hin e0 e1 e2 r0 r1 r2 c2 rs HST HBK HAT hnc hq hB ss
          go_wp2
          go_roundg (go - 1)
          case measure => have := HKG.out; omega
          case rel => exact ⟨k + 1, _, by have := HKG.out; omega, by go_num, HLE.out, R9.out⟩
    · have dk : decide (k < N) = false := by simp; omega
      obtain rfl : k = N := by have := HKG.out; omega
      have hr : Hid (∃ ks : List Hb, ks.length = k ∧ Gr W wr B g (.slice av k cv) n hs ks ks.length) := ⟨ks, HK.out, by rw [HK.out]; exact G1.out⟩
      clear G1 HK hk HKG HN
      go_wp2
      go_end0
      exact ⟨rfl, hr.out⟩
end Go.Proofs.YtlddnpgcoekaaaaGreatDoor
