/- Pieces of the proof: Class, QbL, BqG, BqH. -/
import Derived.BigQuiet
import Derived.Test.YtpgkohimcofjnaaGreatDoorM5
import Derived.ArgAppend
/- A drawn region walked once, in the text's order, over a class of worlds of one's own: its callees may make memory, and operations whose guard says no are passed over. No program stands in it. -/
namespace Go.Proofs.YtpgkohimcofjnaaGreatDoor
open Go

theorem wp_region_class {P : Program} {X : Type} (f : X → World) {id : Nat} {Q : Exit → Act → World → Prop} {a : Act} {w : World} {l : List Oper} (hm : P.follows .mixedOrders = true) (hB : Region.lexB .any l.toArray = true) (hC : ∃ x, { w with drawn := w.drawn + 1 } = f x)
    (h : wpQuiet P l.toArray (fun w' => ∃ x, w' = f x) (fun a' => ∀ w', (∃ x, w' = f x) → Q .normal a' w') l a) : (Code.region id l.toArray true).wp P Q a w :=
  wp_region_quiet (C := fun w' => ∃ x, w' = f x) hm hB hC (by simpa using h)
theorem class_of (S : World → Prop) (w0 : World) (h : S w0) : ∃ (X : Type) (f : X → World), Nonempty X ∧ (∀ x, S (f x)) ∧ ∀ w', S w' → ∃ x, w' = f x :=
  ⟨{ w // S w }, Subtype.val, ⟨⟨w0, h⟩⟩, fun x => x.2, fun w' h => ⟨⟨w', h⟩, rfl⟩⟩
end Go.Proofs.YtpgkohimcofjnaaGreatDoor
/- lookBlob of a Book. -/
namespace Go.Proofs.YtpgkohimcofjnaaGreatDoor
open Go.RowKit

set_option maxRecDepth 100000 in
set_option maxHeartbeats 4000000 in
theorem lookBlob_any {W w : World} {B g lo : Nat} {vb : Value} {hs ks : List Hc} (h : GrQ W w B g lo vb hs ks ks.length) (hn : ks.length ≤ 1000000) :
    Calls Tryz.prog 83 #[.pointer (some ⟨g, 0, none⟩)] w fun e w' => e = .returned (.bool true) ∧ Below w.heap.size w w' := by
  have H0 := hide h
  obtain ⟨av, nv, cv, hv⟩ : ∃ a n' c, vb = .slice a n' c := by
    rcases h.bk.row.2 with ⟨e, _⟩ | ⟨r, cap, cur, e, _⟩ <;> exact ⟨_, _, _, e⟩
  have hnv : nv = ks.length := by
    rcases h.bk.row.2 with ⟨e, e2⟩ | ⟨r, cap, cur, e, _⟩
    · rw [hv] at e; cases e; exact e2.symm
    · rw [hv] at e; cases e; rfl
  subst hv hnv
  clear h
  generalize hN : ks.length = N at *
  have HN := hide hN
  clear hN
  go_enter Tryz.func83, Tryz.ntmps83
  go_wp2
  go_loopg [3] N (fun gk i wr => ∃ k : Nat, k + gk = N ∧ i = .int .i64 k ∧ Below w.heap.size w wr)
  case atStart => exact ⟨0, by omega, rfl, Below.refl _ _⟩
  case round =>
    obtain ⟨k, hk, rfl, hbl⟩ := hrel
    have HKG := hide hk
    have G1 := hide (H0.out.next hbl)
    have B1 := hide hbl
    have c2 := G1.out.bk.co
    clear hbl H0
    by_cases hlt : k < N
    · have hlt' : k < ks.length := by have := HN.out; omega
      obtain ⟨r, cap, hv, hr, _, hcap, r0, r1, r2, rs⟩ := G1.out.bk.at hlt'
      injection hv with hv1 hv2 hv3
      clear hv2
      subst hv1 hv3
      have hkI : (k : Int) < (N : Int) := by omega
      have dk : decide (k < N) = true := by simp; omega
      obtain ⟨hx1, hx2, _⟩ := G1.out.lim _ (List.getElem_mem hlt')
      have hb1 : Below wr.heap.size wr (wr.alloc (.cells #[ks[k].v, ks[k].vl, .int .i64 ks[k].m] 80)) := (Below.refl _ _).alloc (Nat.le_refl _) _
      have hdn := (G1.out.next hb1).dn k hlt' (by omega)
      have B2 := hide (B1.out.trans (hb1.mono B1.out.size))
      have HM := hide (fun (W : World) (u : Value) (h : BM lo ks[k].m W u) => isBlob_yes lo ks[k].m hx2 W u h)
      obtain ⟨⟨xd, d1, d1b⟩, d2, _, _⟩ := hdn
      have R1 := hide (ownR_rdQ d1 d1b)
      have R2 := hide d2
      obtain ⟨e0, e1, e2⟩ := box3 wr ks[k].v ks[k].vl (.int .i64 ks[k].m) 80
      clear hb1 d1 d1b d2
      generalize hxk : ks[k] = x at *
      obtain ⟨v, vl, m, L⟩ := x
      simp only at *
      obtain ⟨a2, c2', hv2, hq2⟩ := R1.out
      obtain ⟨a1, c1, hv1, hq1⟩ := R2.out
      subst hv1 hv2
      have HQ1 := hide hq1
      have HQ2 := hide hq2
      generalize hW1 : wr.alloc (.cells #[.slice a1 L c1, .slice a2 (L + 40) c2', .int .i64 m] 80) = W1 at *
      have HW1 := hide hW1
      have hadd : IntKind.i64.wrap ((L : Int) + 40) = ((L + 40 : Nat) : Int) := by rw [IntKind.wrap_i64]; omega
      have hcz : wr.heap.size < W1.heap.size := by rw [← HW1.out]; simp
      clear hW1 hxk hq1 hq2 R1 R2
      rw [Nat.mul_comm] at r0 r1 r2
      obtain ⟨go, hgo⟩ : ∃ go, go = gk := ⟨_, rfl⟩
      subst hgo
      clear hk
      go_wp2
      rw [HW1.out]
      clear HW1 G1 HN
      generalize wr.heap.size = c at *
      go_loopg [5] (L + 40) (fun gk j wi => ∃ q : Nat, q + gk = L + 40 ∧ j = .int .i64 q ∧ Below W1.heap.size W1 wi)
      case atStart => exact ⟨0, by omega, rfl, Below.refl _ _⟩
      case round =>
        obtain ⟨q, hq, rfl, hb3⟩ := hrel
        have HQ := hide hq
        have B3 := hide hb3
        have f0 := (hb3.cell (p := ⟨c, 0, none⟩) hcz).trans e0
        have f1 := (hb3.cell (p := ⟨c, 1, none⟩) hcz).trans e1
        have f2 := (hb3.cell (p := ⟨c, 2, none⟩) hcz).trans e2
        by_cases hqt : q < L + 40
        · obtain ⟨p2, u2, rfl, s0, m2⟩ := HQ2.out q hqt
          have dq : decide (q < L + 40) = true := by simp; omega
          have hqI : (q : Int) < ((L + 40 : Nat) : Int) := by omega
          obtain ⟨X, f, hX, hS, hcov⟩ := class_of (fun w' => Below W1.heap.size W1 w') wr.drew B3.out.drew
          have f0' := fun x => ((hS x).cell (p := ⟨c, 0, none⟩) hcz).trans e0
          have f1' := fun x => ((hS x).cell (p := ⟨c, 1, none⟩) hcz).trans e1
          have f2' := fun x => ((hS x).cell (p := ⟨c, 2, none⟩) hcz).trans e2
          have hlt2 := World.block_lt_of_cell? W1 _ s0
          have t0 := fun x => ((hS x).cell (p := ⟨p2, q, none⟩) hlt2).trans s0
          have HC0 : Hid (∃ x, wr.drew = f x) := hcov _ B3.out.drew
          have HSB : Hid (∀ x, BM lo m (f x) u2) := fun x => m2.next (hS x)
          obtain ⟨b2, e2', hu2, _⟩ := m2
          subst hu2
          have HNX : Hid (∀ x w', Below (f x).heap.size (f x) w' → ∃ y, w' = f y) := fun x w' hb => hcov w' ((hS x).trans (hb.mono (hS x).size))
          have HSS := hide hS
          clear hcov hS s0 hlt2
          by_cases hql : q < L
          · obtain ⟨p1, u1, rfl, s0, m1⟩ := HQ1.out q hql
            have HSC : Hid (∀ x, BM lo m (f x) u1) := fun x => m1.next (HSS.out x)
            obtain ⟨b1, e1', hu1, _⟩ := m1
            subst hu1
            have hlt1 := World.block_lt_of_cell? W1 _ s0
            have t6 := fun x => ((HSS.out x).cell (p := ⟨p1, q, none⟩) hlt1).trans s0
            have dq1 : decide (q < L) = true := by simp; omega
            have hqI1 : (q : Int) < (L : Int) := by omega
            clear s0 hlt1 hb3 e0 e1 e2 r0 r1 r2 c2 rs hq HQ1 HQ2
            go_wp2
            refine wp_region_class f (by kernel_rfl) (by kernel_rfl) HC0.out ?_
            repeat (first
              | go_big_quiet_skip
              | (go_big_quiet_want; go_big_quiet_op; first
                  | go_big_quiet_on
                  | (apply Exists.intro
                     refine ⟨fun _ => ?_, ?_⟩
                     · (go_at_call 146; refine (HM.out _ _ (by with_reducible (first | exact HSB.out _ | exact HSC.out _))).mono ?_; rintro e' wn ⟨rfl, hb⟩; exact ⟨rfl, HNX.out _ _ hb⟩)
                     go_big_quiet_on)))
            refine wpQuiet_nil ?_
            rintro _ ⟨x, rfl⟩
            go_wp2
            go_roundg (gk - 1)
            case measure => have := HQ.out; omega
            case rel => exact ⟨q + 1, by have := HQ.out; omega, by go_num, HSS.out x⟩
          · have dq1 : decide (q < L) = false := by simp; omega
            clear hb3 e0 e1 e2 r0 r1 r2 c2 rs hq HQ1 HQ2
            go_wp2
            refine wp_region_class f (by kernel_rfl) (by kernel_rfl) HC0.out ?_
            repeat (first
              | go_big_quiet_skip
              | (go_big_quiet_want; go_big_quiet_op; first
                  | go_big_quiet_on
                  | (apply Exists.intro
                     refine ⟨fun _ => ?_, ?_⟩
                     · (go_at_call 146; refine (HM.out _ _ (HSB.out _)).mono ?_; rintro e' wn ⟨rfl, hb⟩; exact ⟨rfl, HNX.out _ _ hb⟩)
                     go_big_quiet_on)))
            refine wpQuiet_nil ?_
            rintro _ ⟨x, rfl⟩
            go_wp2
            go_roundg (gk - 1)
            case measure => have := HQ.out; omega
            case rel => exact ⟨q + 1, by have := HQ.out; omega, by go_num, HSS.out x⟩
        · have dq : decide (q < L + 40) = false := by simp; omega
          have B4 := hide (B2.out.trans (B3.out.mono B2.out.size))
          clear hb3 e0 e1 e2 r0 r1 r2 c2 rs hq HQ1 HQ2
          go_wp2
          go_roundg (go - 1)
          case measure => have := HKG.out; omega
          case rel => exact ⟨k + 1, by have := HKG.out; omega, by go_num, B4.out⟩
    · have dk : decide (k < N) = false := by simp; omega
      clear G1 HN hk
      go_wp2
      go_ret
      exact ⟨rfl, B1.out⟩
end Go.Proofs.YtpgkohimcofjnaaGreatDoor
/- growByte of a Book. -/
namespace Go.Proofs.YtpgkohimcofjnaaGreatDoor
open Go.RowKit

/- 'append(v, y)', v of one's own: in its place, or somewhere new, and then all else is as it was. -/
theorem wpList_app1 {w : World} {ops : Array Oper} {rest : List Oper} {o : Oper} {a : Act} {Q : Exit → Act → World → Prop} (hgd : o.guard = none) (s x : Operand) (ho : o.op = .call { callee := .builtin .append, args := #[s, x], argTypes := #[22, 22] })
    (B : Nat) (v : Value) (xs : List Nat) (hs : a.eval s = v) (hown : Own8 w B v xs) (p y : Nat) (hx : a.eval x = .slice (some ⟨p, 0, none⟩) 1 1) (hr : RdA w (some ⟨p, 0, none⟩) [y])
    (hl : xs.length ≤ 1000000000) (hB : B ≤ w.heap.size)
    (h : ∀ v' w', Own8 w' B v' (xs ++ [y]) → (v'.ownBlock = v.ownBlock ∧ w.grownBy w' v.ownBlock) ∨ (w.grownBy w' none ∧ ∀ b, v'.ownBlock = some b → w.heap.size ≤ b) → wpList Tryz.prog ops Q rest (a.put o.dst v') w') :
    wpList Tryz.prog ops Q (o :: rest) a w := by
  obtain ⟨i0, hi0, hz0, hz1, hz2⟩ := info_parts Tryz.info8
  obtain ⟨p', off, e, _, hc⟩ := hr.some (by simp)
  injection e with e
  injection e with e1 e2
  subst e1 e2
  rcases hown.2 with ⟨rfl, hn⟩ | ⟨g, cap, cur, rfl, hg, hcur, h1, h2, h3, h4⟩
  · have hx0 : xs = [] := List.length_eq_zero_iff.1 hn
    subst hx0
    refine wpList_append_grows w hgd s x 22 ho 5 i0 (.int .u8 0) 1 1 Tryz.underlying22 hi0 hz0 hz1 hz2 rfl (by decide) none 0 0 [] hs (fun _ => ⟨rfl, rfl⟩) rfl (fun _ e => by cases e) ⟨p, 0, none⟩ 1 1 (u8s [y]) hx rfl (rdA_src hc) (u8s_one [y]) (by omega) (by unfold maxLen; omega) (by omega) ?_
    intro v' w' r1 r2
    have ho' : Own8 w' w.heap.size v' ([] ++ [y]) := r1
    exact h v' w' (ownsRow_lower ho' hB) (.inr ⟨r2, fun b hb => (World.ownsRow.lt ho' b hb).1⟩)
  · by_cases hfit : xs.length + 1 ≤ cap
    · refine wpList_append_fits w hgd s x 22 ho B 5 i0 1 Tryz.underlying22 hi0 hz1 g xs.length cap (u8s xs) hs hown ⟨p, 0, none⟩ 1 1 (u8s [y]) hx rfl (rdA_src hc) (u8s_one [y]) hfit ?_
      intro w' r1 r2
      refine h _ w' ?_ (.inl ⟨rfl, r2⟩)
      unfold Own8
      rw [List.length_append, u8s_append]
      exact r1
    · have hcell : ∀ b, (some (⟨g, 0, none⟩ : Addr)) = some b → ∀ j u, (u8s xs)[j]? = some u → w.cell? (b.add j) = some u := fun b e j u hu => by
        cases e; exact World.ownsRow.cells hown (g := g) rfl j u hu
      refine wpList_append_grows w hgd s x 22 ho 5 i0 (.int .u8 0) 1 1 Tryz.underlying22 hi0 hz0 hz1 hz2 rfl (by decide) (some ⟨g, 0, none⟩) xs.length cap (u8s xs) hs (fun e => by cases e) (by rw [u8s_length, Nat.mul_one]) hcell ⟨p, 0, none⟩ 1 1 (u8s [y]) hx rfl (rdA_src hc) (u8s_one [y]) (by omega) (by unfold maxLen; omega) (by omega) ?_
      intro v' w' r1 r2
      have ho' : Own8 w' w.heap.size v' (xs ++ [y]) := by
        unfold Own8
        rw [List.length_append, u8s_append]
        exact r1
      exact h v' w' (ownsRow_lower ho' hB) (.inr ⟨r2, fun b hb => (World.ownsRow.lt ho' b hb).1⟩)
/- Bytes that can be read off a value, at the head of a row. -/
def RdV (W : World) (v : Value) (xs : List Nat) : Prop := ∃ a c, v = .slice a xs.length c ∧ RdA W a xs ∧ ∀ q, a = some q → q.off = 0 ∧ q.spot = none
theorem RdV.fr {E : Nat → Prop} {W W' : World} {v : Value} {xs : List Nat} (h : RdV W v xs) (hf : Fr E W W') (hn : ∀ b, v.ownBlock = some b → ¬ E b) : RdV W' v xs := by
  obtain ⟨a, c, rfl, hr, hq⟩ := h
  refine ⟨a, c, rfl, ?_, hq⟩
  rcases hr with e | ⟨p, off, rfl, hp, hc⟩
  · exact .inl e
  · exact .inr ⟨p, off, rfl, Nat.lt_of_lt_of_le hp hf.size, fun i hi => hf.cell (hc i hi) (hn p rfl)⟩
theorem Own8.rdV {W : World} {B : Nat} {v : Value} {xs : List Nat} (h : Own8 W B v xs) : RdV W v xs := by
  obtain ⟨a, c, rfl, _, _, hq⟩ := h.shape
  exact ⟨a, c, rfl, h.rd.2, fun q e => ⟨(hq q e).1, (hq q e).2.1⟩⟩
structure GIn (W1 wi : World) (B : Nat) (v lv : Value) (n m q : Nat) : Prop where
  ow : Own8 wi B lv (List.replicate (n + q) (mk8 m))
  rd : RdV wi v (List.replicate n (mk8 m))
  fr : Fr (fun b => v.ownBlock = some b) W1 wi
  bl : ∀ b, lv.ownBlock = some b → v.ownBlock = some b ∨ W1.heap.size ≤ b
theorem GIn.next {W1 wi w' : World} {B : Nat} {v lv : Value} {n m q : Nat} (h : GIn W1 wi B v lv n m q) (hb : Below wi.heap.size wi w') : GIn W1 w' B v lv n m q :=
  ⟨h.ow.below hb, h.rd.fr (E := fun _ => False) (Fr.ofBelow hb) (fun _ _ e => e), h.fr.trans (E' := fun _ => False) (Fr.ofBelow hb) (fun _ _ e => e.elim), h.bl⟩
theorem GIn.step {W1 wi w' : World} {B : Nat} {v lv lv' : Value} {n m q : Nat} (h : GIn W1 wi B v lv n m q) (ho : Own8 w' B lv' (List.replicate (n + q) (mk8 m) ++ [mk8 m])) (hd : (lv'.ownBlock = lv.ownBlock ∧ wi.grownBy w' lv.ownBlock) ∨ (wi.grownBy w' none ∧ ∀ b, lv'.ownBlock = some b → wi.heap.size ≤ b)) : GIn W1 w' B v lv' n m (q + 1) := by
  have ho2 : Own8 w' B lv' (List.replicate (n + (q + 1)) (mk8 m)) := by
    rw [show n + (q + 1) = (n + q) + 1 by omega, List.replicate_succ']; exact ho
  rcases hd with ⟨e, hg⟩ | ⟨hg, hb⟩
  · have hf : Fr (fun b => lv.ownBlock = some b) wi w' := Fr.grown hg (fun r e => e)
    refine ⟨ho2, ?_, h.fr.trans hf (fun b hb e' => ?_), fun b hb => h.bl b (e ▸ hb)⟩
    · by_cases hv : ∃ b, v.ownBlock = some b ∧ lv.ownBlock = some b
      · obtain ⟨b, hv1, hv2⟩ := hv
        obtain ⟨a, c, hva, hr, hq⟩ := h.rd
        obtain ⟨a', c', rfl, _, _, hq'⟩ := ho2.shape
        subst hva
        cases a with
        | none => cases hv1
        | some z =>
          cases a' with
          | none => rw [hv2] at e; cases e
          | some z' =>
            obtain ⟨z1, z2⟩ := hq z rfl
            obtain ⟨z3, z4, _⟩ := hq' z' rfl
            have e1 : z.block = b := by cases hv1; rfl
            have e2 : z'.block = b := by rw [hv2] at e; cases e; rfl
            have ez : z = z' := by
              obtain ⟨zb, zo, zs⟩ := z
              obtain ⟨zb', zo', zs'⟩ := z'
              simp only at z1 z2 z3 z4 e1 e2
              subst z1 z2 z3 z4 e1 e2
              rfl
            subst ez
            refine ⟨_, _, rfl, ?_, hq⟩
            have hr2 := ho2.rd.2
            rcases hr2 with e0 | ⟨p, off, e0, hp, hc⟩
            · left
              have := congrArg List.length e0
              simp at this
            · refine .inr ⟨p, off, e0, hp, fun i hi => ?_⟩
              have hi' : i < n := by simpa using hi
              have := hc i (by simp; omega)
              simpa using this
      · exact h.rd.fr hf (fun b hb e' => hv ⟨b, hb, e'⟩)
    · rcases h.bl b e' with e' | e'
      · exact e'
      · omega
  · refine ⟨ho2, h.rd.fr (E := fun _ => False) (Fr.grown hg (fun r e => by cases e)) (fun _ _ e => e), h.fr.trans (E' := fun _ => False) (Fr.grown hg (fun r e => by cases e)) (fun _ _ e => e.elim), fun b hb' => .inr (Nat.le_trans h.fr.size (hb b hb'))⟩
def GE (hs : List Hb) (vb : Value) (b : Nat) : Prop := LE hs b ∨ vb.ownBlock = some b
/- What holds of the lists while they are growing. -/
structure Gr (W wr : World) (B g : Nat) (vb : Value) (n : Nat) (hs ks : List Hb) (k : Nat) : Prop where
  bk : Bk wr B g vb n ks
  sep : Sep g vb ks
  lim : ∀ x ∈ ks, x.xs.length ≤ 100000000 ∧ x.m < 1000000000 ∧ ∃ a n c, x.vl = .slice a n c
  dn : ∀ j (hj : j < ks.length), j < k → Own8 wr B ks[j].vl (List.replicate (ks[j].xs.length + 40) (mk8 ks[j].m)) ∧ RdV wr ks[j].v (List.replicate ks[j].xs.length (mk8 ks[j].m)) ∧ (∀ b, ks[j].vl.ownBlock = some b → vb.ownBlock ≠ some b) ∧ ∀ i (hi : i < ks.length), k ≤ i → ∀ b, ks[j].vl.ownBlock = some b → ks[i].v.ownBlock ≠ some b
  td : ∀ j (hj : j < ks.length), k ≤ j → Own8 wr B ks[j].v (List.replicate ks[j].xs.length (mk8 ks[j].m))
  fr : Fr (GE hs vb) W wr
  le : ∀ b, LE ks b → LE hs b
theorem Gr.next {W wr w' : World} {B g n k : Nat} {vb : Value} {hs ks : List Hb} (h : Gr W wr B g vb n hs ks k) (hb : Below wr.heap.size wr w') : Gr W w' B g vb n hs ks k :=
  ⟨h.bk.next hb, h.sep, h.lim, fun j hj hk => ⟨(h.dn j hj hk).1.below hb, (h.dn j hj hk).2.1.fr (E := fun _ => False) (Fr.ofBelow hb) (fun _ _ e => e), (h.dn j hj hk).2.2⟩, fun j hj hk => (h.td j hj hk).below hb, h.fr.trans (E' := fun _ => False) (Fr.ofBelow hb) (fun _ _ e => e.elim), h.le⟩
theorem Sep.set {g : Nat} {vb : Value} {ks : List Hb} (s : Sep g vb ks) {k : Nat} (hk : k < ks.length) (u : Value) : Sep g vb (ks.set k { ks[k] with vl := u }) := by
  have hv : ∀ j (hj : j < (ks.set k { ks[k] with vl := u }).length), (ks.set k { ks[k] with vl := u })[j].v = (ks[j]'(by simpa using hj)).v := fun j hj => by
    rw [List.getElem_set]; split
    · rename_i e; subst e; rfl
    · rfl
  refine ⟨fun x hx => ?_, fun x hx => ?_, fun i j hi hj hne => ?_⟩
  · obtain ⟨j, hj, rfl⟩ := List.getElem_of_mem hx
    rw [hv]; exact s.g _ (List.getElem_mem _)
  · obtain ⟨j, hj, rfl⟩ := List.getElem_of_mem hx
    rw [hv]; exact s.b _ (List.getElem_mem _)
  · rw [hv, hv]; exact s.p i j _ _ hne
end Go.Proofs.YtpgkohimcofjnaaGreatDoor
/- growByte of a Book: its loops. -/
namespace Go.Proofs.YtpgkohimcofjnaaGreatDoor
open Go.RowKit

theorem Own8.slc {W : World} {B : Nat} {v : Value} {xs : List Nat} (h : Own8 W B v xs) : ∃ a n c, v = .slice a n c := by
  obtain ⟨a, c, h, _⟩ := h.shape
  exact ⟨a, _, c, h⟩
theorem Gr.step {W W1 wi : World} {B g n k r cap : Nat} {N : Nat} {hs ks : List Hb} {lv : Value} (hN : ks.length = N) (h : Gr W W1 B g (.slice (some ⟨r, 0, none⟩) N cap) n hs ks k) (hk : k < ks.length) (hi : GIn W1 wi B ks[k].v lv ks[k].xs.length ks[k].m 40) :
    Gr W (wi.setCell ⟨r, 3 * k + 1, none⟩ lv) B g (.slice (some ⟨r, 0, none⟩) N cap) n hs (ks.set k { ks[k] with vl := lv }) (k + 1) := by
  subst hN
  have hrW : r < W1.heap.size := (h.bk.vlt r rfl).2
  have sb := h.sep.b
  have hset : Fr (fun b => b = r) wi (wi.setCell ⟨r, 3 * k + 1, none⟩ lv) := (Fr.refl _ wi).set _ _ rfl
  have gv : ∀ j (hj : j < (ks.set k { ks[k] with vl := lv }).length), (ks.set k { ks[k] with vl := lv })[j].v = (ks[j]'(by simpa using hj)).v ∧ (ks.set k { ks[k] with vl := lv })[j].m = (ks[j]'(by simpa using hj)).m ∧ (ks.set k { ks[k] with vl := lv })[j].xs = (ks[j]'(by simpa using hj)).xs := fun j hj => by
    rw [List.getElem_set]; split
    · rename_i e; subst e; exact ⟨rfl, rfl, rfl⟩
    · exact ⟨rfl, rfl, rfl⟩
  have gk : ∀ (hj : k < (ks.set k { ks[k] with vl := lv }).length), (ks.set k { ks[k] with vl := lv })[k].vl = lv := fun hj => by rw [List.getElem_set_self]
  have gn : ∀ j (hj : j < (ks.set k { ks[k] with vl := lv }).length), j ≠ k → (ks.set k { ks[k] with vl := lv })[j].vl = (ks[j]'(by simpa using hj)).vl := fun j hj hne => by
    rw [List.getElem_set_ne (by omega)]
  have vr : ∀ j (hj : j < ks.length) b, ks[j].v.ownBlock = some b → b ≠ r := fun j hj b hb e => sb _ (List.getElem_mem hj) b hb (by rw [e]; rfl)
  have hbk : Bk wi B g (.slice (some ⟨r, 0, none⟩) ks.length cap) n ks := h.bk.fr hi.fr (h.sep.g _ (List.getElem_mem hk)) (fun b hb e => sb _ (List.getElem_mem hk) b e hb)
  have lr : ∀ b, lv.ownBlock = some b → b ≠ r := fun b hb => by
    rcases hi.bl b hb with e | e
    · exact vr k hk b e
    · omega
  refine ⟨hbk.put hk lv, h.sep.set hk lv, fun x hx => ?_, fun j hj hjk => ?_, fun j hj hjk => ?_, ?_, fun b hb => ?_⟩
  · obtain ⟨j, hj, rfl⟩ := List.getElem_of_mem hx
    have hj' : j < ks.length := by simpa using hj
    obtain ⟨_, g2, g3⟩ := gv j hj
    have hl := h.lim _ (List.getElem_mem hj')
    rw [g2, g3]
    refine ⟨hl.1, hl.2.1, ?_⟩
    by_cases e : j = k
    · subst e; rw [gk]; exact hi.ow.slc
    · rw [gn j hj e]; exact hl.2.2
  · have hj' : j < ks.length := by simpa using hj
    obtain ⟨g1, g2, g3⟩ := gv j hj
    by_cases e : j = k
    · subst e
      rw [gk, g1, g2, g3]
      refine ⟨hi.ow.fr hset (fun b hb e => lr b hb e), hi.rd.fr hset (fun b hb e => vr j hj' b hb e), fun b hb e => lr b hb (by injection e with e; exact e.symm), fun i hii hji b hb => ?_⟩
      have hi' : i < ks.length := by simpa using hii
      rw [(gv i hii).1]
      rcases hi.bl b hb with e | e
      · exact h.sep.p j i hj' hi' (by omega) b e
      · intro e2; have := (World.ownsRow.lt (h.td i hi' (by omega)) b e2).2; omega
    · obtain ⟨d1, d2, d3, d4⟩ := h.dn j hj' (by omega)
      rw [gn j hj e, g1, g2, g3]
      refine ⟨(d1.fr hi.fr (fun b hb e => d4 k hk (Nat.le_refl _) b hb e)).fr hset (fun b hb e => d3 b hb (by rw [e]; rfl)), (d2.fr hi.fr (fun b hb e' => h.sep.p j k hj' hk e b hb e')).fr hset (fun b hb e => vr j hj' b hb e), d3, fun i hii hji b hb => ?_⟩
      rw [(gv i hii).1]
      exact d4 i (by simpa using hii) (by omega) b hb
  · have hj' : j < ks.length := by simpa using hj
    obtain ⟨g1, g2, g3⟩ := gv j hj
    rw [g1, g2, g3]
    exact ((h.td j hj' (by omega)).fr hi.fr (fun b hb e => h.sep.p j k hj' hk (by omega) b hb e)).fr hset (fun b hb e => vr j hj' b hb e)
  · exact (h.fr.trans hi.fr (fun b _ e => .inl (h.le b ⟨_, List.getElem_mem hk, e⟩))).set _ _ (.inr rfl)
  · obtain ⟨x, hx, e⟩ := hb
    obtain ⟨j, hj, rfl⟩ := List.getElem_of_mem hx
    rw [(gv j hj).1] at e
    exact h.le b ⟨_, List.getElem_mem _, e⟩
set_option maxRecDepth 100000 in
set_option maxHeartbeats 2000000 in
theorem growByte_any {W : World} {B g n : Nat} {vb : Value} {hs : List Hb} (h : Gr W W B g vb n hs hs 0) (hn : hs.length ≤ 1000000) :
    Calls Tryz.prog 50 #[.pointer (some ⟨g, 0, none⟩)] W fun e W' => e = .returned (.tuple #[]) ∧ ∃ ks, ks.length = hs.length ∧ Gr W W' B g vb n hs ks ks.length := by
  have H0 := hide h
  obtain ⟨av, nv, cv, hv⟩ : ∃ a n' c, vb = .slice a n' c := by
    rcases h.bk.row.2 with ⟨e, _⟩ | ⟨r, cap, cur, e, _⟩ <;> exact ⟨_, _, _, e⟩
  have hnv : nv = hs.length := by
    rcases h.bk.row.2 with ⟨e, e2⟩ | ⟨r, cap, cur, e, _⟩
    · rw [hv] at e; cases e; exact e2.symm
    · rw [hv] at e; cases e; rfl
  subst hv hnv
  clear h
  generalize hN : hs.length = N at *
  have HN := hide hN
  clear hN
  go_enter Tryz.func50, Tryz.ntmps50
  go_wp2
  go_loopg [2] N (fun gk i wr => ∃ (k : Nat) (ks : List Hb), k + gk = N ∧ i = .int .i64 k ∧ ks.length = N ∧ Gr W wr B g (.slice av N cv) n hs ks k)
  case atStart => exact ⟨0, hs, by omega, rfl, HN.out, H0.out⟩
  case round =>
    obtain ⟨k, ks, hk, rfl, hksl, hG⟩ := hrel
    have HK := hide hksl
    have HKG := hide hk
    have G1 := hide hG
    have c2 := hG.bk.c2
    clear hG H0 hksl
    by_cases hlt : k < N
    · have hlt' : k < ks.length := by have := HK.out; omega
      obtain ⟨r, cap, hv, hr, _, hcap, r0, r1, r2, rs⟩ := G1.out.bk.at hlt'
      injection hv with hv1 hv2 hv3
      clear hv2
      subst hv1 hv3
      have hkI : (k : Int) < (N : Int) := by omega
      have dk : decide (k < N) = true := by simp; omega
      have hlim := G1.out.lim _ (List.getElem_mem hlt')
      have hown := G1.out.td k hlt' (Nat.le_refl _)
      have hb1 : Below wr.heap.size wr (wr.alloc (.cells #[ks[k].v, ks[k].vl, .int .i64 ks[k].m] 78)) := (Below.refl _ _).alloc (Nat.le_refl _) _
      have G2 := hide (G1.out.next hb1)
      have hsep := G1.out.sep
      have HBK := hide (fun (wi : World) (hf : Fr (fun b => ks[k].v.ownBlock = some b) _ wi) => (G2.out.bk.fr hf (hsep.g _ (List.getElem_mem hlt')) (fun b hb e => hsep.b _ (List.getElem_mem hlt') b e hb)))
      have HST := hide (fun (wi : World) (lv : Value) => G2.out.step (wi := wi) (lv := lv) HK.out hlt')
      have HM := hide (fun W => mark_any ks[k].m hlim.2.1 W)
      have HI : Hid (GIn _ _ B ks[k].v ks[k].v ks[k].xs.length ks[k].m 0) := ⟨hown.below hb1, (hown.below hb1).rdV, Fr.refl _ _, fun b hb => .inl hb⟩
      have hnc : ¬ ks[k].v.ownBlock = some wr.heap.size := fun e => by have := (World.ownsRow.lt hown _ e).2; omega
      have hsz := hb1.size
      have hBW : B ≤ wr.heap.size := by have := G1.out.bk.gB; have := G1.out.bk.lt; omega
      obtain ⟨e0, e1, e2⟩ := box3 wr ks[k].v ks[k].vl (.int .i64 ks[k].m) 78
      have HAT := hide (fun (w' : World) (hb : Bk w' B g (.slice (some ⟨r, 0, none⟩) N cv) n ks) => hb.at hlt')
      have hsl := hown.slc
      obtain ⟨hx1, hx2, hx3⟩ := hlim
      clear hb1 hsep hown
      generalize hxk : ks[k] = x at *
      obtain ⟨v, vl, m, xs⟩ := x
      simp only at *
      obtain ⟨a1, n1, c1, hv1⟩ := hsl
      obtain ⟨al, nl, cl, hvl⟩ := hx3
      subst hv1 hvl
      generalize hW1 : wr.alloc (.cells #[.slice a1 n1 c1, .slice al nl cl, .int .i64 m] 78) = W1 at *
      have HW1 := hide hW1
      have HNC := hide hnc
      have HSZ := hide hsz
      clear hW1 hxk hsz
      rw [Nat.mul_comm] at r0 r1 r2
      obtain ⟨go, hgo⟩ : ∃ go, go = gk := ⟨_, rfl⟩
      subst hgo
      clear hk
      go_wp2
      rw [HW1.out]
      clear HW1 G1 G2
      generalize wr.heap.size = c at *
      go_loopg [4, 5] 40 (fun gk lv j wi => ∃ q : Nat, q + gk = 40 ∧ j = .int .i64 q ∧ GIn W1 wi B (.slice a1 n1 c1) lv xs.length m q)
      case atStart => exact ⟨0, by omega, rfl, HI.out⟩
      case round =>
        obtain ⟨q, hq, rfl, hin⟩ := hrel
        have HIN := hide hin
        obtain ⟨a2, n2, c2', hv2⟩ := hin.ow.slc
        subst hv2
        have f2 := hin.fr.cell e2 HNC.out
        have HQ := hide hq
        by_cases hqt : q < 40
        · have hqI : (q : Int) < 40 := by omega
          have dq : decide (q < 40) = true := by simp; omega
          clear hin e0 e1 e2 r0 r1 r2 c2 rs HST HBK HAT hnc hq
          go_wp2_with (first
            | (go_at_call 113; refine (HM.out _).mono ?_; rintro e w7 ⟨rfl, hw⟩; subst hw)
            | (at_builtin; refine wpList_app1 rfl _ _ rfl B _ (List.replicate (xs.length + q) (mk8 m)) rfl (HIN.out.ow.below ((Below.refl _ _).alloc (Nat.le_refl _) _)) _ (mk8 m) rfl (one_rd _ (mk8 m) _) (by simp; omega) (by have := HIN.out.fr.size; have := HSZ.out; simp; omega) ?_; intro v8 w8 O8 D8; have I8 := hide ((HIN.out.next ((Below.refl _ _).alloc (Nat.le_refl _) _)).step O8 D8); clear O8 D8))
          go_roundg (gk - 1)
          case measure => have := HQ.out; omega
          case rel => exact ⟨q + 1, by have := HQ.out; omega, by go_num, I8.out⟩
        · obtain rfl : q = 40 := by omega
          have dq : decide (40 < 40) = false := by simp
          have hB := HBK.out _ hin.fr
          obtain ⟨r', cap', hv', _, _, _, s0, s1, s2, ss⟩ := HAT.out _ hB
          injection hv' with hv1 hv2 hv3
          injection hv1 with hv1
          injection hv1 with hv1
          clear hv2
          subst hv1 hv3
          have c2n := hB.c2
          rw [Nat.mul_comm] at s0 s1 s2
          have ssk := ss (k * 3 + 1)
          have R9 := hide (HST.out wr _ HIN.out)
          rw [Nat.mul_comm 3 k] at R9
          have HLE : Hid ((ks.set k ⟨.slice a1 n1 c1, .slice a2 n2 c2', m, xs⟩).length = N) := by show _ = _; rw [List.length_set]; exact HK.out
          clear hin e0 e1 e2 r0 r1 r2 c2 rs HST HBK HAT hnc hq hB ss
          go_wp2
          go_roundg (go - 1)
          case measure => have := HKG.out; omega
          case rel => exact ⟨k + 1, _, by have := HKG.out; omega, by go_num, HLE.out, R9.out⟩
    · have dk : decide (k < N) = false := by simp; omega
      obtain rfl : k = N := by have := HKG.out; omega
      have hr : Hid (∃ ks : List Hb, ks.length = k ∧ Gr W wr B g (.slice av k cv) n hs ks ks.length) := ⟨ks, HK.out, by rw [HK.out]; exact G1.out⟩
      clear G1 HK hk HKG HN
      go_wp2
      go_end0
      exact ⟨rfl, hr.out⟩
end Go.Proofs.YtpgkohimcofjnaaGreatDoor
