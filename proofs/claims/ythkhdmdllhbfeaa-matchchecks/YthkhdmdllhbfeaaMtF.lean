/- package match: what stands where; does a table weigh; numbers that may be. -/
import Derived.Test.YthkhdmdllhbfeaaMtE
namespace Go.Proofs.Ythkhdmdllhbfeaa
open Go.RowKit

set_option maxHeartbeats 1000000 in
theorem index_any (a : Option Addr) (cap : Nat) (ks : List Nat) (c : Nat) (w : World) (hr : RdA w a ks) (hl : ks.length ≤ 140737488355328) : Calls Try.prog 58 #[.slice a ks.length cap, .int .u8 (c : Nat)] w fun e w' => e = .returned (.int .i64 (firstI (fun k => k == c) ks)) ∧ w' = w := by
  have HR := hide hr
  clear hr
  go_enter Try.func58, Try.ntmps58
  go_wp2
  go_loopw [8] (fun i wr => ∃ k : Nat, k ≤ ks.length ∧ i = .int .i64 k ∧ (∀ j (hj : j < k) (hj' : j < ks.length), (ks[j] == c) = false) ∧ wr = w) (fun i _ => ks.length - (intOf i).toNat)
  case atStart => exact ⟨0, by omega, rfl, fun j hj => absurd hj (by omega), rfl⟩
  case round =>
    obtain ⟨k, hk, rfl, hn, hwr⟩ := hrel
    subst wr
    have HN := hide hn
    clear hn
    by_cases hlt : k < ks.length
    · obtain ⟨p, off, rfl, hp, hcl⟩ := HR.out.some (by omega)
      have q0 := hcl k hlt
      have hlI : (k : Int) < (ks.length : Int) := by omega
      clear hcl
      by_cases hc : ks[k] = c
      · have HH := hide (firstI_hit (p := fun k => k == c) hlt (by simp [hc]) (fun j hj => HN.out j hj (by omega)))
        rw [hc] at q0
        clear hc
        go_wp2
        go_ret
        exact ⟨by rw [HH.out]; rfl, rfl⟩
      · have HX : Hid (∀ j (hj : j < k + 1) (hj' : j < ks.length), (ks[j] == c) = false) := fun j hj hj' => by
          by_cases e : j = k
          · subst e; simpa using hc
          · exact HN.out j (by omega) hj'
        generalize ks[k] = d at q0 hc
        have e1 : ((c : Int) == (d : Int)) = false := by simp; omega
        have e2 : ((c : Int) = (d : Int)) = False := by simp; omega
        clear hc
        go_wp2
        go_roundw
        case rel => exact ⟨k + 1, by omega, by go_num, HX.out, by first | rfl | trivial⟩
        case measure => simp [intOf]; omega
    · obtain rfl : k = ks.length := by omega
      have HH := hide (firstI_none (p := fun k => k == c) (l := ks) (fun j hj => HN.out j hj hj))
      go_wp2
      go_ret
      exact ⟨by rw [HH.out]; rfl, rfl⟩
theorem contains_any (a : Option Addr) (cap : Nat) (ks : List Nat) (c : Nat) (w : World) (hr : RdA w a ks) (hl : ks.length ≤ 140737488355328) : Calls Try.prog 71 #[.slice a ks.length cap, .int .u8 (c : Nat)] w fun e w' => e = .returned (.bool (ks.any (fun k => k == c))) ∧ w' = w := by
  have H := hide (index_any a cap ks c w hr hl)
  have E := hide (firstI_any (fun k => k == c) ks)
  clear hr hl
  go_enter Try.func71, Try.ntmps71
  go_wp2_with (go_at_call 58; refine H.out.mono ?_; rintro e w1 ⟨rfl, rfl⟩)
  go_ret
  exact ⟨by rw [← E.out]; simp, rfl⟩
def weighsB (t : Tb) : Bool := t.ks.any (fun k => k == 3) || t.ks.any (fun k => k == 4)
theorem weighs_any (x : TbL) (w : World) (hx : TbR w x) : Calls Try.prog 56 #[x.val] w fun e w' => e = .returned (.bool (weighsB x.t)) ∧ Below w.heap.size w w' := by
  obtain ⟨⟨ks, ws, size⟩, ka, kc, wa, wc⟩ := x
  obtain ⟨h1, h2, h3, h4, h5⟩ := hx
  simp only [TbL.val, weighsB] at *
  have H3 : Hid (∀ W, Below w.heap.size w W → _) := fun W hb => contains_any ka kc ks 3 W (h1.below hb) h3
  have H4 : Hid (∀ W, Below w.heap.size w W → _) := fun W hb => contains_any ka kc ks 4 W (h1.below hb) h3
  clear h1 h2 h3 h4 h5
  generalize ks.any (fun k => k == 3) = t3 at *
  generalize ks.any (fun k => k == 4) = t4 at *
  cases t3
  · go_enter Try.func56, Try.ntmps56
    go_wp2_with fail
    refine (H3.out _ (below1 _ _)).mono ?_
    rintro e w1 ⟨rfl, rfl⟩
    go_wp2_with fail
    refine (H4.out _ (below1 _ _)).mono ?_
    rintro e w1 ⟨rfl, rfl⟩
    go_wp2
    go_ret
    exact ⟨by simp, below1 _ _⟩
  · go_enter Try.func56, Try.ntmps56
    go_wp2_with fail
    refine (H3.out _ (below1 _ _)).mono ?_
    rintro e w1 ⟨rfl, rfl⟩
    go_wp2
    go_ret
    exact ⟨by simp, below1 _ _⟩
def prioB (t : Tb) (n : Int) : Bool := if weighsB t then fromB 1 n 2147483647 else n == 0
theorem priority_any (x : TbL) (n : Int) (w : World) (hx : TbR w x) : Calls Try.prog 44 #[x.val, .int .i64 n] w fun e w' => e = .returned (.bool (prioB x.t n)) ∧ Below w.heap.size w w' := by
  have HW : Hid (∀ W, Below w.heap.size w W → _) := fun W hb => weighs_any x W (hx.below hb)
  have HF : Hid (∀ W, _) := fun W => from_any 1 n 2147483647 W
  clear hx
  simp only [prioB]
  generalize weighsB x.t = t at *
  obtain ⟨⟨ks, ws, size⟩, ka, kc, wa, wc⟩ := x
  simp only [TbL.val] at *
  cases t
  · go_enter Try.func44, Try.ntmps44
    go_wp2_with fail
    refine (HW.out _ (below1 _ _)).mono ?_
    rintro e w1 ⟨rfl, hb⟩
    go_wp2
    go_ret
    exact ⟨by simp, bstep (below1 _ _) hb⟩
  · go_enter Try.func44, Try.ntmps44
    go_wp2_with fail
    refine (HW.out _ (below1 _ _)).mono ?_
    rintro e w1 ⟨rfl, hb⟩
    go_wp2_with fail
    refine (HF.out _).mono ?_
    rintro e w2 ⟨rfl, rfl⟩
    go_wp2
    go_ret
    exact ⟨by simp, bstep (below1 _ _) hb⟩
/- Numbers that can be read. -/
theorem badArg_any (b : Nb) (hb : NbR b) : Pure 46 #[b.val] (.bool (!b.ok)) := fun w => by
  obtain ⟨bw, bh, bl⟩ := b
  obtain ⟨_, ⟨h0, h1⟩, ⟨h2, h3⟩⟩ := hb
  simp only at h0 h1 h2 h3
  have HC : Hid (∀ W, _) := fun W => check_any bw bh bl W h0 h1 h2 h3
  clear h0 h1 h2 h3
  simp only [Nb.val, Nb.ok]
  generalize okB bw bh bl = t at *
  go_enter Try.func46, Try.ntmps46
  go_wp2_with (go_at_call 47; refine (HC.out _).mono ?_; rintro e w1 ⟨rfl, hb⟩)
  go_ret
  exact ⟨rfl, bstep (below1 _ _) hb⟩
set_option maxHeartbeats 1000000 in
theorem indexBad_any (a : Option Addr) (cap : Nat) (l : List Nb) (w : World) (hr : RdN w a l) (hl : l.length ≤ 140737488355328) (hn : ∀ b ∈ l, NbR b) : Calls Try.prog 66 #[.slice a l.length cap, .func (.func 46) #[] #[]] w fun e w' => e = .returned (.int .i64 (firstI (fun b => !b.ok) l)) ∧ Below w.heap.size w w' := by
  have HR := hide hr
  have HB := hide hn
  clear hr hn
  go_enter Try.func66, Try.ntmps66
  go_wp2
  go_loopw [8] (fun i wr => ∃ k : Nat, k ≤ l.length ∧ i = .int .i64 k ∧ (∀ j (hj : j < k) (hj' : j < l.length), (!l[j].ok) = false) ∧ Below w.heap.size w wr) (fun i _ => l.length - (intOf i).toNat)
  case atStart => exact ⟨0, by omega, rfl, fun j hj => absurd hj (by omega), Below.refl _ _⟩
  case round =>
    obtain ⟨k, hk, rfl, hn, hb⟩ := hrel
    have HN := hide hn
    have HW := hide hb
    clear hn hb
    by_cases hlt : k < l.length
    · obtain ⟨p, off, rfl, hp, hcl⟩ := (HR.out.below HW.out).some (by omega)
      obtain ⟨q0, q1, q2⟩ := hcl k hlt
      have hlI : (k : Int) < (l.length : Int) := by omega
      have HC := hide (badArg_any l[k] (HB.out _ (List.getElem_mem hlt)) wr)
      clear hcl
      cases ho : (!l[k].ok)
      · have HX : Hid (∀ j (hj : j < k + 1) (hj' : j < l.length), (!l[j].ok) = false) := fun j hj hj' => by
          by_cases e : j = k
          · subst e; exact ho
          · exact HN.out j (by omega) hj'
        rw [ho] at HC
        clear ho
        generalize l[k] = b at q0 q1 q2 HC
        obtain ⟨bw, bh, bl⟩ := b
        simp only [Nb.val] at *
        go_wp2_with fail
        refine HC.out.mono ?_
        rintro e w1 ⟨rfl, hb⟩
        go_wp2
        go_roundw
        case rel => exact ⟨k + 1, by omega, by go_num, HX.out, bstep HW.out hb⟩
        case measure => simp [intOf]; omega
      · have HH := hide (firstI_hit (p := fun b => !Nb.ok b) hlt ho (fun j hj => HN.out j hj (by omega)))
        rw [ho] at HC
        clear ho
        generalize l[k] = b at q0 q1 q2 HC
        obtain ⟨bw, bh, bl⟩ := b
        simp only [Nb.val] at *
        go_wp2_with fail
        refine HC.out.mono ?_
        rintro e w1 ⟨rfl, hb⟩
        go_wp2
        go_ret
        exact ⟨by rw [HH.out]; rfl, bstep HW.out hb⟩
    · obtain rfl : k = l.length := by omega
      have HH := hide (firstI_none (p := fun b => !Nb.ok b) (l := l) (fun j hj => HN.out j hj hj))
      go_wp2
      go_ret
      exact ⟨by rw [HH.out]; rfl, HW.out⟩
theorem containsBad_any (a : Option Addr) (cap : Nat) (l : List Nb) (w : World) (hr : RdN w a l) (hl : l.length ≤ 140737488355328) (hn : ∀ b ∈ l, NbR b) : Calls Try.prog 45 #[.slice a l.length cap, .func (.func 46) #[] #[]] w fun e w' => e = .returned (.bool (l.any (fun b => !b.ok))) ∧ Below w.heap.size w w' := by
  have H := hide (indexBad_any a cap l w hr hl hn)
  have E := hide (firstI_any (fun b => !Nb.ok b) l)
  clear hr hl hn
  go_enter Try.func45, Try.ntmps45
  go_wp2_with (go_at_call 66; refine H.out.mono ?_; rintro e w1 ⟨rfl, hb⟩)
  go_ret
  exact ⟨by rw [← E.out]; simp, hb⟩
end Go.Proofs.Ythkhdmdllhbfeaa
