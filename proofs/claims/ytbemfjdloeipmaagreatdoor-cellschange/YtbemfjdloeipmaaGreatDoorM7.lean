/- Pieces of the proof: CeB. -/
import Derived.Test.YtbemfjdloeipmaaGreatDoorM6
/- package cells: what a cell may hold, and the frame of an array. -/
namespace Go.Proofs.YtbemfjdloeipmaaGreatDoor
open Go.RowKit

set_option maxHeartbeats 1000000 in
theorem holds_any (x : ArL) (b : Nb) (hb : NbR b) : Pure 28 #[x.val, b.val] (.bool (holdsB x.a b)) := fun w => by
  obtain ⟨⟨name, kind, aw, rate, burst, cs, ls⟩, ca, cc, la, lc⟩ := x
  obtain ⟨bw, bh, bl⟩ := b
  obtain ⟨_, ⟨h0, h1⟩, ⟨h2, h3⟩⟩ := hb
  simp only [ArL.val, Nb.val, holdsB, Nb.ok] at *
  have HC : Hid (∀ W, Calls Tryz.prog 133 #[.agg #[.int .i64 bw, .int .u64 bh, .int .u64 bl]] W fun e w' => e = .returned (.bool (okB bw bh bl)) ∧ Below W.heap.size W w') := fun W => check_any bw bh bl W h0 h1 h2 h3
  clear h0 h1 h2 h3
  generalize okB bw bh bl = t at *
  generalize cs.length = n1 at *
  generalize ls.length = n2 at *
  by_cases hw : bw = aw
  · subst hw
    cases t
    · go_enter Tryz.func28, Tryz.ntmps28
      go_wp2_with fail
      refine (HC.out _).mono ?_
      rintro e w1 ⟨rfl, hb⟩
      go_wp2
      go_ret
      exact ⟨by simp, bstep (below2 _ _ _) hb⟩
    · by_cases hk : kind = 5
      · subst hk
        go_enter Tryz.func28, Tryz.ntmps28
        go_wp2_with fail
        refine (HC.out _).mono ?_
        rintro e w1 ⟨rfl, hb⟩
        obtain ⟨p0, p1, p2, p3, p4, p5, p6⟩ := at7 (heap_below hb (heap_past _ (heap_alloc_new _ _)))
        obtain ⟨q0, q1, q2, -⟩ := at3 (heap_below hb (heap_snd _ _ _ _))
        go_wp2
        go_ret
        exact ⟨by simp, bstep (below2 _ _ _) hb⟩
      · have e2 : (kind == 5) = false := by simp [hk]
        go_enter Tryz.func28, Tryz.ntmps28
        go_wp2_with fail
        refine (HC.out _).mono ?_
        rintro e w1 ⟨rfl, hb⟩
        obtain ⟨p0, p1, p2, p3, p4, p5, p6⟩ := at7 (heap_below hb (heap_past _ (heap_alloc_new _ _)))
        obtain ⟨q0, q1, q2, -⟩ := at3 (heap_below hb (heap_snd _ _ _ _))
        go_wp2
        go_ret
        exact ⟨by simp [e2], bstep (below2 _ _ _) hb⟩
  · have hw' : (bw == aw) = false := by simp [hw]
    go_enter Tryz.func28, Tryz.ntmps28
    go_wp2
    go_ret
    exact ⟨by simp [hw], below2 _ _ _⟩
set_option maxHeartbeats 1000000 in
theorem frame_any (x : ArL) (w : World) (hx : ArR w x) : Calls Tryz.prog 202 #[x.val] w fun e w' => e = .returned (.bool (frameB x.a)) ∧ Below w.heap.size w w' := by
  have HP : Hid (Pure _ _ _) := isPlain_any x
  have HT : Hid (∀ W, Below w.heap.size w W → _) := fun W hb => ticks_any x W (hx.below hb)
  clear hx
  obtain ⟨⟨name, kind, aw, rate, burst, cs, ls⟩, ca, cc, la, lc⟩ := x
  have HF1 : Hid (∀ W, _) := fun W => cfrom_any 1 aw 128 W
  have HF2 : Hid (∀ W, _) := fun W => cfrom_any 0 rate 65535 W
  have HF3 : Hid (∀ W, _) := fun W => cfrom_any 1 burst 65535 W
  simp only [ArL.val, frameB] at *
  generalize plainB ⟨name, kind, aw, rate, burst, cs, ls⟩ = tp at *
  generalize ticksB ⟨name, kind, aw, rate, burst, cs, ls⟩ = tt at *
  generalize fromB 1 aw 128 = f1 at *
  generalize fromB 0 rate 65535 = f2 at *
  generalize fromB 1 burst 65535 = f3 at *
  generalize cs.length = n1 at *
  generalize ls.length = n2 at *
  by_cases k3 : kind = 3
  · subst k3
    simp only [if_true]
    cases f1
    · go_enter Tryz.func202, Tryz.ntmps202
      go_wp2_with fail
      refine (HF1.out _).mono ?_
      rintro e w1 ⟨rfl, rfl⟩
      go_wp2
      go_ret
      exact ⟨by simp, below1 _ _⟩
    · go_enter Tryz.func202, Tryz.ntmps202
      go_wp2_with fail
      refine (HF1.out _).mono ?_
      rintro e w1 ⟨rfl, rfl⟩
      go_wp2_with fail
      refine (HP.out _).mono ?_
      rintro e w1 ⟨rfl, hb⟩
      go_wp2
      go_ret
      exact ⟨by simp, bstep (below1 _ _) hb⟩
  · have k3' : (kind == 3) = false := by simp [k3]
    rw [if_neg k3]
    by_cases k4 : kind = 4
    · subst k4
      simp only [if_true]
      clear k3 k3'
      cases e4 : (aw == 64)
      · go_enter Tryz.func202, Tryz.ntmps202
        go_wp2
        go_ret
        exact ⟨by simp, below1 _ _⟩
      · go_enter Tryz.func202, Tryz.ntmps202
        go_wp2_with fail
        refine (HP.out _).mono ?_
        rintro e w1 ⟨rfl, hb⟩
        go_wp2
        go_ret
        exact ⟨by simp, bstep (below1 _ _) hb⟩
    · have k4' : (kind == 4) = false := by simp [k4]
      rw [if_neg k4]
      by_cases k5 : kind = 5
      · subst k5
        simp only [if_true]
        clear k3 k3' k4 k4'
        cases e4 : (aw == 64)
        · go_enter Tryz.func202, Tryz.ntmps202
          go_wp2
          go_ret
          exact ⟨by simp, below1 _ _⟩
        · cases f2
          · go_enter Tryz.func202, Tryz.ntmps202
            go_wp2_with fail
            refine (HF2.out _).mono ?_
            rintro e w1 ⟨rfl, rfl⟩
            go_wp2
            go_ret
            exact ⟨by simp, below1 _ _⟩
          · cases f3
            · go_enter Tryz.func202, Tryz.ntmps202
              go_wp2_with fail
              refine (HF2.out _).mono ?_
              rintro e w1 ⟨rfl, rfl⟩
              go_wp2_with fail
              refine (HF3.out _).mono ?_
              rintro e w1 ⟨rfl, rfl⟩
              go_wp2
              go_ret
              exact ⟨by simp, below1 _ _⟩
            · go_enter Tryz.func202, Tryz.ntmps202
              go_wp2_with fail
              refine (HF2.out _).mono ?_
              rintro e w1 ⟨rfl, rfl⟩
              go_wp2_with fail
              refine (HF3.out _).mono ?_
              rintro e w1 ⟨rfl, rfl⟩
              go_wp2_with fail
              refine (HT.out _ (below1 _ _)).mono ?_
              rintro e w1 ⟨rfl, hb⟩
              go_wp2
              go_ret
              exact ⟨by simp, bstep (below1 _ _) hb⟩
      · have k5' : (kind == 5) = false := by simp [k5]
        rw [if_neg k5]
        clear k3 k4 k5
        go_enter Tryz.func202, Tryz.ntmps202
        go_wp2
        go_ret
        exact ⟨by simp, below1 _ _⟩
end Go.Proofs.YtbemfjdloeipmaaGreatDoor
