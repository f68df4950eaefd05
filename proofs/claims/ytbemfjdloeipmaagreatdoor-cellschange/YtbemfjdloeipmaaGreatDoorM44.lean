/- Pieces of the proof: CgB, CfC. -/
import Derived.Test.YtbemfjdloeipmaaGreatDoorM30
import Derived.Test.YtbemfjdloeipmaaGreatDoorM33
import Derived.Test.YtbemfjdloeipmaaGreatDoorM43
import Derived.Test.YtbemfjdloeipmaaGreatDoorM14
/- CellsChange: the document's Meter with one answer; blocks that stay; results as rows of one's own. -/
namespace Go.Proofs.YtbemfjdloeipmaaGreatDoor
open Go.RowKit

theorem refMeter14_any (x : ArL) (i : Nb) (now : Int) (w : World) (hx : ArR w x) (hln : x.la = none → x.lc = 0) (hi : NbR i) (h1 : now < 9223372036854775808) :
    Calls Tryz.prog 14 #[x.val, i.val, .int .i64 now] w fun e w' => ∃ y : ArL, y.a = meterB x.a i now ∧ e = .returned (.tuple #[y.val, (meterV x.a i now).val, .int .i64 (meterC x.a i now)]) ∧ ArR w' y ∧ Below w.heap.size w w' := by
  unfold meterB meterV
  by_cases h : meterC x.a i now = 0
  · rw [if_pos h, if_pos h]
    obtain ⟨k1, k2⟩ := meterC_yes h
    refine (refMeter14_yes x i now w hx hln hi k1 h1 k2).mono ?_
    rintro e w' ⟨y, hy, rfl, h1, h2⟩
    exact ⟨y, hy, by rw [h]; rfl, h1, h2⟩
  · rw [if_neg h, if_neg h]
    suffices H : Calls Tryz.prog 14 #[x.val, i.val, .int .i64 now] w fun e w' => e = .returned (.tuple #[zeroV, .agg #[.int .i64 0, .int .u64 0, .int .u64 0], .int .i64 (meterC x.a i now)]) ∧ Below w.heap.size w w' by
      refine H.mono ?_
      rintro e w' ⟨rfl, h2⟩
      exact ⟨_, rfl, rfl, zeroL_r _, h2⟩
    have HF : Hid (∀ W, Below w.heap.size w W → _) := fun W hb => refAt14_any 5 x i W (hx.below hb) hi
    unfold meterC at h ⊢
    by_cases c1 : (findA 5 x.a i).2 = 1
    · rw [c1] at HF
      have e : (if now < 0 then 1 else (findA 5 x.a i).2) = 1 := by rw [c1]; split <;> rfl
      rw [e]
      exact refMeter14_a x i now w _ HF
    · have n1 : ((findA 5 x.a i).2 == 1) = false := by simpa using c1
      have n1' : ((findA 5 x.a i).2 = 1) = False := by simpa using c1
      by_cases hn : now < 0
      · rw [if_pos hn]
        exact refMeter14_b x i now w _ _ HF n1 n1' hn
      · rw [if_neg hn] at h ⊢
        exact refMeter14_c x i now w _ _ HF n1 n1' hn (by simpa using h) (by simpa using h)
/- Blocks that stay as they are. -/
def Bl (W : World) (l : List (Nat × Array Value × TypeId)) : Prop := ∀ e ∈ l, W.heap[e.1]? = some (.cells e.2.1 e.2.2 (0, 0))
theorem Bl.below {W W' : World} {l : List (Nat × Array Value × TypeId)} (h : Bl W l) (hb : Below W.heap.size W W') : Bl W' l := fun e he => heap_below hb (h e he)
theorem Bl.add {W : World} {l : List (Nat × Array Value × TypeId)} (h : Bl W l) (cs : Array Value) (t : TypeId) : Bl (W.alloc (.cells cs t)) (l ++ [(W.heap.size, cs, t)]) := fun e he => by
  rcases List.mem_append.1 he with he | he
  · exact heap_past _ (h e he)
  · rw [List.mem_singleton.1 he]; exact heap_alloc_new W _
theorem Bl.get {W : World} {l : List (Nat × Array Value × TypeId)} (h : Bl W l) (i : Nat) {b : Nat} {cs : Array Value} {t : TypeId} (he : l[i]? = some (b, cs, t)) : W.heap[b]? = some (.cells cs t (0, 0)) := h _ (List.mem_of_getElem? he)
theorem at6 {W : World} {b : Nat} {x0 x1 x2 x3 x4 x5 : Value} {t : TypeId} (h : W.heap[b]? = some (.cells #[x0, x1, x2, x3, x4, x5] t (0, 0))) : W.cell? ⟨b, 0, none⟩ = some x0 ∧ W.cell? ⟨b, 1, none⟩ = some x1 ∧ W.cell? ⟨b, 2, none⟩ = some x2 ∧ W.cell? ⟨b, 3, none⟩ = some x3 ∧ W.cell? ⟨b, 4, none⟩ = some x4 ∧ W.cell? ⟨b, 5, none⟩ = some x5 := by
  unfold World.cell?; simp only [h]; exact ⟨rfl, rfl, rfl, rfl, rfl, rfl⟩
/- Results as rows. -/
theorem ownR_row {W : World} {B c n : Nat} {a : Option Addr} {t : TypeId} {cs : List Value} (h : OwnR W B a t cs) (hc : 0 < c) (hl : cs.length = n * c) (hn : n ≤ 100000000) : W.ownsRow B t c (.slice a n n) n cs := by
  rcases h with ⟨h1, h2⟩ | ⟨g, h1, h2, h3⟩
  · subst h1 h2
    have h0 : n = 0 := by
      rcases Nat.mul_eq_zero.1 (show n * c = 0 from hl.symm) with h | h
      · exact h
      · omega
    subst h0
    exact World.ownsRow_nil W B _ _
  · subst h1
    exact own_shut h2 h3 (Nat.le_refl _) (by unfold maxLen; omega) hl (by rw [← hl, List.take_length]) hl
/- An answer's lists: not too long, in blocks between lo and hi. -/
structure Rw (W : World) (lo hi : Nat) (v : Value) (n : Nat) (t c : Nat) : Prop where
  ow : ∃ xs, W.ownsRow lo t c v n xs
  bd : ∀ k, v.ownBlock = some k → lo ≤ k ∧ k < hi
  hl : hi ≤ W.heap.size
theorem Rw.of {W : World} {lo n t c : Nat} {v : Value} {xs : List Value} (h : W.ownsRow lo t c v n xs) : Rw W lo W.heap.size v n t c := ⟨⟨xs, h⟩, World.ownsRow.lt h, Nat.le_refl _⟩
theorem Rw.below {W W' : World} {lo hi n t c : Nat} {v : Value} (h : Rw W lo hi v n t c) (hb : Below W.heap.size W W') : Rw W' lo hi v n t c := ⟨h.ow.imp fun _ hy => owR_below hy hb, h.bd, Nat.le_trans h.hl hb.size⟩
theorem Rw.low {W : World} {lo lo' hi n t c : Nat} {v : Value} (h : Rw W lo hi v n t c) (hb : lo' ≤ lo) : ∃ xs, W.ownsRow lo' t c v n xs := h.ow.imp fun _ hy => owR_lower hy hb
theorem rw_dis {W W' : World} {lo hi lo' hi' n n' t c t' c' : Nat} {v v' : Value} (h : Rw W lo hi v n t c) (h' : Rw W' lo' hi' v' n' t' c') (hb : hi ≤ lo') : ∀ b, v.ownBlock = some b → v'.ownBlock ≠ some b := fun b e e' => by
  have := (h.bd b e).2
  have := (h'.bd b e').1
  omega
theorem ArN.rw {W : World} {B : Nat} {a : Ar} {ca la : Option Addr} (h : ArN W B a ca la) (h1 : a.cs.length ≤ 100000000) (h2 : a.ls.length ≤ 100000000) : Rw W B W.heap.size (.slice ca a.cs.length a.cs.length) a.cs.length 29 3 ∧ Rw W B W.heap.size (.slice la a.ls.length a.ls.length) a.ls.length 3 1 :=
  ⟨Rw.of (ownR_row h.cs (by decide) (flat_length nb_len _) h1), Rw.of (ownR_row h.ls (by decide) (flat_length int_len _) h2)⟩
theorem countA_len (a : Ar) (i : Nb) : (countA a i).cs.length ≤ a.cs.length ∧ (countA a i).ls.length ≤ a.ls.length := by
  unfold countA; split
  · simp [Ar.put]
  · simp [zeroA]
theorem writeA_len (a : Ar) (i v : Nb) : (writeA a i v).cs.length ≤ a.cs.length ∧ (writeA a i v).ls.length ≤ a.ls.length := by
  unfold writeA; split
  · simp [Ar.put]
  · simp [zeroA]
theorem meterB_len (a : Ar) (i : Nb) (now : Int) : (meterB a i now).cs.length ≤ a.cs.length ∧ (meterB a i now).ls.length ≤ a.ls.length := by
  unfold meterB; split
  · simp [metA]
  · simp [zeroA]
theorem arSz_len {a : Ar} (h : arSz a ≤ 50000) : a.cs.length ≤ 50000 ∧ a.ls.length ≤ 50000 := by
  unfold arSz at h
  split at h
  · split at h <;> omega
  · omega
end Go.Proofs.YtbemfjdloeipmaaGreatDoor
/- The document's own Read (chapter 14). -/
namespace Go.Proofs.YtbemfjdloeipmaaGreatDoor
open Go.RowKit

set_option maxRecDepth 100000 in
set_option maxHeartbeats 4000000 in
theorem refRead14_any (x : ArL) (i : Nb) (w : World) (hx : ArR w x) (hi : NbR i) (c : Int) (hc : (findA 3 x.a i).2 = c) (v : Nb) (hv : v = if c = 0 then x.a.cs.getD i.lo.toNat nb0 else nb0) :
    Calls Tryz.prog 12 #[x.val, i.val] w fun e w' => e = .returned (.tuple #[v.val, .int .i64 c]) ∧ Below w.heap.size w w' := by
  have HF : Hid (∀ W, Below w.heap.size w W → _) := fun W hb => refAt14_any 3 x i W (hx.below hb) hi
  have HX := hide hx
  by_cases h0 : c = 0
  · subst h0
    obtain ⟨-, -, -, -, h5, h6⟩ := findA_yes hc
    rw [hc, h6] at HF
    have hp := hi.lo.1
    obtain ⟨k, hk⟩ := Int.eq_ofNat_of_zero_le hp
    have hk2 : k < x.a.cs.length := by omega
    have hkI : ((k : Int) < (x.a.cs.length : Int)) := by omega
    rw [if_pos rfl, hk, Int.toNat_natCast, List.getD_eq_getElem?_getD, List.getElem?_eq_getElem hk2, Option.getD_some] at hv
    have HC : Hid (∀ W, Below w.heap.size w W → ∃ p off, x.ca = some ⟨p, off, none⟩ ∧ W.cell? ⟨p, off + k * 3, none⟩ = some (.int .i64 v.w) ∧ W.cell? ⟨p, off + k * 3 + 1, none⟩ = some (.int .u64 v.hi) ∧ W.cell? ⟨p, off + k * 3 + 2, none⟩ = some (.int .u64 v.lo)) := fun W hb => by
      obtain ⟨p, off, e, _, hcl⟩ := (hx.cs.below hb).some (by omega)
      have := hcl k hk2
      rw [← hv] at this
      exact ⟨p, off, e, this⟩
    obtain ⟨⟨name, kind, aw, rate, burst, cs, ls⟩, ca, cc, la, lc⟩ := x
    obtain ⟨iw, ih, il⟩ := i
    obtain ⟨vw, vh, vl⟩ := v
    simp only [ArL.val, Nb.val] at *
    subst hk
    clear hx hi hc h5 h6 hp hv hk2 HX
    generalize cs.length = n1 at *
    generalize ls.length = n2 at *
    go_enter Tryz.func12, Tryz.ntmps12
    go_wp2_with fail
    refine (HF.out _ ?_).mono ?_
    · exact below3 _ _ _ _
    rintro e w1 ⟨rfl, hb⟩
    have BB := hide (bstep (below3 _ _ _ _) hb)
    have k3 := heap_below hb (heap_trd _ _ _ _ _)
    obtain ⟨r0, r1, r2, r3⟩ := at3 k3
    have k4 := heap_below hb (heap_past _ (heap_past _ (heap_alloc_new w (.cells #[.string name, .int .u8 kind, .int .i64 aw, .int .i64 rate, .int .i64 burst, .slice ca n1 cc, .slice la n2 lc] 26))))
    obtain ⟨p0, p1, p2, p3, p4, p5, p6⟩ := at7 k4
    obtain ⟨p, off, rfl, q0, q1, q2⟩ := HC.out _ BB.out
    clear k3 k4 hb
    go_wp2
    refine bodyPost_ret (v := .tuple #[.agg #[.int .i64 vw, .int .u64 vh, .int .u64 vl], .int .i64 0]) (by simp [results, Tryz.results12, go_sem, r0, r1, r2]) rfl ⟨rfl, ?_⟩
    exact ((BB.out.setCell (by simp; omega) _).setCell (by simp; omega) _).setCell (by simp; omega) _
  · rw [if_neg h0] at hv
    subst hv
    have h1 : (c == 0) = false := by simp [h0]
    have h2 : (c = 0) = False := by simp [h0]
    rw [hc] at HF
    generalize (findA 3 x.a i).1 = d at *
    obtain ⟨⟨name, kind, aw, rate, burst, cs, ls⟩, ca, cc, la, lc⟩ := x
    obtain ⟨iw, ih, il⟩ := i
    simp only [ArL.val, Nb.val, nb0] at *
    clear hx hi hc h0 HX
    generalize cs.length = n1 at *
    generalize ls.length = n2 at *
    go_enter Tryz.func12, Tryz.ntmps12
    go_wp2_with fail
    refine (HF.out _ ?_).mono ?_
    · exact below3 _ _ _ _
    rintro e w1 ⟨rfl, hb⟩
    have BB := hide (bstep (below3 _ _ _ _) hb)
    have k3 := heap_below hb (heap_trd _ _ _ _ _)
    obtain ⟨r0, r1, r2, r3⟩ := at3 k3
    clear k3 hb
    go_wp2
    refine bodyPost_ret (v := .tuple #[.agg #[.int .i64 0, .int .u64 0, .int .u64 0], .int .i64 c]) (by simp [results, Tryz.results12, go_sem, r0, r1, r2]) rfl ⟨rfl, ?_⟩
    exact ((BB.out.setCell (by simp; omega) _).setCell (by simp; omega) _).setCell (by simp; omega) _
end Go.Proofs.YtbemfjdloeipmaaGreatDoor
