/- package match: what stands where; does a table weigh; numbers that may be. -/
import Derived.Test.YtoonlpdohhconaaMtE
namespace Go.Proofs.Ytoonlpdohhconaa
open Go.RowKit

def firstI {α : Type} (p : α → Bool) (l : List α) : Int := match l.findIdx? p with | some i => (i : Int) | none => -1
theorem firstI_hit {α : Type} {p : α → Bool} {l : List α} {k : Nat} (h : k < l.length) (hp : p l[k] = true) (hn : ∀ j (hj : j < k), p (l[j]'(by omega)) = false) : firstI p l = k := by
  have : l.findIdx? p = some k := by
    rw [List.findIdx?_eq_some_iff_getElem]
    exact ⟨h, hp, fun j hj => by simp [hn j hj]⟩
  unfold firstI; rw [this]
theorem firstI_none {α : Type} {p : α → Bool} {l : List α} (hn : ∀ j (hj : j < l.length), p l[j] = false) : firstI p l = -1 := by
  have : l.findIdx? p = none := by
    rw [List.findIdx?_eq_none_iff]
    intro x hx
    obtain ⟨j, hj, rfl⟩ := List.mem_iff_getElem.1 hx
    exact hn j hj
  unfold firstI; rw [this]
theorem firstI_cases {α : Type} (p : α → Bool) (l : List α) : (firstI p l = -1 ∧ ∀ x ∈ l, p x = false) ∨ ∃ k, ∃ h : k < l.length, firstI p l = k ∧ p l[k] = true ∧ ∀ j (hj : j < k), p (l[j]'(by omega)) = false := by
  cases e : l.findIdx? p with
  | none => exact .inl ⟨by unfold firstI; rw [e], fun x hx => by rw [List.findIdx?_eq_none_iff] at e; exact e x hx⟩
  | some k =>
    obtain ⟨h, hp, hn⟩ := List.findIdx?_eq_some_iff_getElem.1 e
    exact .inr ⟨k, h, by unfold firstI; rw [e], hp, fun j hj => by simpa using hn j hj⟩
theorem firstI_any {α : Type} (p : α → Bool) (l : List α) : decide (0 ≤ firstI p l) = l.any p := by
  rcases firstI_cases p l with ⟨e, hn⟩ | ⟨k, h, e, hp, _⟩
  · rw [e]; symm; simp; exact hn
  · rw [e]; symm; simp; exact ⟨_, List.getElem_mem h, hp⟩
theorem firstI_lt {α : Type} (p : α → Bool) (l : List α) : -1 ≤ firstI p l ∧ firstI p l < l.length ∨ firstI p l = -1 := by
  rcases firstI_cases p l with ⟨e, _⟩ | ⟨k, h, e, _⟩
  · exact .inr e
  · left; rw [e]; omega
set_option maxHeartbeats 1000000 in
theorem index_any (a : Option Addr) (cap : Nat) (ks : List Nat) (c : Nat) (w : World) (hr : RdA w a ks) (hl : ks.length ≤ 140737488355328) : Calls Try.prog 62 #[.slice a ks.length cap, .int .u8 (c : Nat)] w fun e w' => e = .returned (.int .i64 (firstI (fun k => k == c) ks)) ∧ w' = w := by
  have HR := hide hr
  clear hr
  go_enter Try.func62, Try.ntmps62
  go_wp2
  go_loopw [8] (fun i wr => ∃ k : Nat, k ≤ ks.length ∧ i = .int .i64 k ∧ (∀ j (hj : j < k) (hj' : j < ks.length), (ks[j] == c) = false) ∧ wr = w) (fun i _ => ks.length - (intOf i).toNat)
  case atStart => exact ⟨0, by omega, rfl, fun j hj => absurd hj (by omega), rfl⟩
  case round =>
    obtain ⟨k, hk, rfl, hn, hwr⟩ := hrel
    subst wr
    have HN := hide hn
    clear hn
    by_cases hlt : k < ks.length
    · obtain ⟨p, off, rfl, hp, hcl⟩ := HR.out.some (by omega)
      have q0 := hcl k hlt
      have hlI : (k : Int) < (ks.length : Int) := by omega
      clear hcl
      by_cases hc : ks[k] = c
      · have HH := hide (firstI_hit (p := fun k => k == c) hlt (by simp [hc]) (fun j hj => HN.out j hj (by omega)))
        rw [hc] at q0
        clear hc
        go_wp2
        go_ret
        exact ⟨by rw [HH.out]; rfl, rfl⟩
      · have HX : Hid (∀ j (hj : j < k + 1) (hj' : j < ks.length), (ks[j] == c) = false) := fun j hj hj' => by
          by_cases e : j = k
          · subst e; simpa using hc
          · exact HN.out j (by omega) hj'
        generalize ks[k] = d at q0 hc
        have e1 : ((c : Int) == (d : Int)) = false := by simp; omega
        have e2 : ((c : Int) = (d : Int)) = False := by simp; omega
        clear hc
        go_wp2
        go_roundw
        case rel => exact ⟨k + 1, by omega, by go_num, HX.out, by first | rfl | trivial⟩
        case measure => simp [intOf]; omega
    · obtain rfl : k = ks.length := by omega
      have HH := hide (firstI_none (p := fun k => k == c) (l := ks) (fun j hj => HN.out j hj hj))
      go_wp2
      go_ret
      exact ⟨by rw [HH.out]; rfl, rfl⟩
theorem contains_any (a : Option Addr) (cap : Nat) (ks : List Nat) (c : Nat) (w : World) (hr : RdA w a ks) (hl : ks.length ≤ 140737488355328) : Calls Try.prog 75 #[.slice a ks.length cap, .int .u8 (c : Nat)] w fun e w' => e = .returned (.bool (ks.any (fun k => k == c))) ∧ w' = w := by
  have H := hide (index_any a cap ks c w hr hl)
  have E := hide (firstI_any (fun k => k == c) ks)
  clear hr hl
  go_enter Try.func75, Try.ntmps75
  go_wp2_with (go_at_call 62; refine H.out.mono ?_; rintro e w1 ⟨rfl, rfl⟩)
  go_ret
  exact ⟨by rw [← E.out]; simp, rfl⟩
def weighsB (t : Tb) : Bool := t.ks.any (fun k => k == 3) || t.ks.any (fun k => k == 4)
theorem weighs_any (x : TbL) (w : World) (hx : TbR w x) : Calls Try.prog 60 #[x.val] w fun e w' => e = .returned (.bool (weighsB x.t)) ∧ Below w.heap.size w w' := by
  obtain ⟨⟨ks, ws, size⟩, ka, kc, wa, wc⟩ := x
  obtain ⟨h1, h2, h3, h4, h5⟩ := hx
  simp only [TbL.val, weighsB] at *
  have H3 : Hid (∀ W, Below w.heap.size w W → _) := fun W hb => contains_any ka kc ks 3 W (h1.below hb) h3
  have H4 : Hid (∀ W, Below w.heap.size w W → _) := fun W hb => contains_any ka kc ks 4 W (h1.below hb) h3
  clear h1 h2 h3 h4 h5
  generalize ks.any (fun k => k == 3) = t3 at *
  generalize ks.any (fun k => k == 4) = t4 at *
  cases t3
  · go_enter Try.func60, Try.ntmps60
    go_wp2_with fail
    refine (H3.out _ (below1 _ _)).mono ?_
    rintro e w1 ⟨rfl, rfl⟩
    go_wp2_with fail
    refine (H4.out _ (below1 _ _)).mono ?_
    rintro e w1 ⟨rfl, rfl⟩
    go_wp2
    go_ret
    exact ⟨by simp, below1 _ _⟩
  · go_enter Try.func60, Try.ntmps60
    go_wp2_with fail
    refine (H3.out _ (below1 _ _)).mono ?_
    rintro e w1 ⟨rfl, rfl⟩
    go_wp2
    go_ret
    exact ⟨by simp, below1 _ _⟩
def prioB (t : Tb) (n : Int) : Bool := if weighsB t then fromB 1 n 2147483647 else n == 0
theorem priority_any (x : TbL) (n : Int) (w : World) (hx : TbR w x) : Calls Try.prog 48 #[x.val, .int .i64 n] w fun e w' => e = .returned (.bool (prioB x.t n)) ∧ Below w.heap.size w w' := by
  have HW : Hid (∀ W, Below w.heap.size w W → _) := fun W hb => weighs_any x W (hx.below hb)
  have HF : Hid (∀ W, _) := fun W => from_any 1 n 2147483647 W
  clear hx
  simp only [prioB]
  generalize weighsB x.t = t at *
  obtain ⟨⟨ks, ws, size⟩, ka, kc, wa, wc⟩ := x
  simp only [TbL.val] at *
  cases t
  · go_enter Try.func48, Try.ntmps48
    go_wp2_with fail
    refine (HW.out _ (below1 _ _)).mono ?_
    rintro e w1 ⟨rfl, hb⟩
    go_wp2
    go_ret
    exact ⟨by simp, bstep (below1 _ _) hb⟩
  · go_enter Try.func48, Try.ntmps48
    go_wp2_with fail
    refine (HW.out _ (below1 _ _)).mono ?_
    rintro e w1 ⟨rfl, hb⟩
    go_wp2_with fail
    refine (HF.out _).mono ?_
    rintro e w2 ⟨rfl, rfl⟩
    go_wp2
    go_ret
    exact ⟨by simp, bstep (below1 _ _) hb⟩
/- Numbers that can be read. -/
def RdN (W : World) (a : Option Addr) (l : List Nb) : Prop :=
  l = [] ∨ ∃ p off, a = some ⟨p, off, none⟩ ∧ p < W.heap.size ∧ ∀ i (h : i < l.length), W.cell? ⟨p, off + i * 3, none⟩ = some (.int .i64 l[i].w) ∧ W.cell? ⟨p, off + i * 3 + 1, none⟩ = some (.int .u64 l[i].hi) ∧ W.cell? ⟨p, off + i * 3 + 2, none⟩ = some (.int .u64 l[i].lo)
theorem RdN.below {W W' : World} {a : Option Addr} {l : List Nb} (h : RdN W a l) (hb : Below W.heap.size W W') : RdN W' a l := by
  rcases h with h | ⟨p, off, rfl, hp, hc⟩
  · exact .inl h
  · exact .inr ⟨p, off, rfl, Nat.lt_of_lt_of_le hp hb.size, fun i hi => ⟨(hb.cell (p := ⟨p, _, none⟩) hp).trans (hc i hi).1, (hb.cell (p := ⟨p, _, none⟩) hp).trans (hc i hi).2.1, (hb.cell (p := ⟨p, _, none⟩) hp).trans (hc i hi).2.2⟩⟩
theorem RdN.some {W : World} {a : Option Addr} {l : List Nb} (h : RdN W a l) (hx : 0 < l.length) : ∃ p off, a = Option.some ⟨p, off, none⟩ ∧ p < W.heap.size ∧ ∀ i (h : i < l.length), W.cell? ⟨p, off + i * 3, none⟩ = Option.some (.int .i64 l[i].w) ∧ W.cell? ⟨p, off + i * 3 + 1, none⟩ = Option.some (.int .u64 l[i].hi) ∧ W.cell? ⟨p, off + i * 3 + 2, none⟩ = Option.some (.int .u64 l[i].lo) := by
  rcases h with rfl | h
  · simp at hx
  · exact h
theorem badArg_any (b : Nb) (hb : NbR b) : Pure 50 #[b.val] (.bool (!b.ok)) := fun w => by
  obtain ⟨bw, bh, bl⟩ := b
  obtain ⟨_, ⟨h0, h1⟩, ⟨h2, h3⟩⟩ := hb
  simp only at h0 h1 h2 h3
  have HC : Hid (∀ W, _) := fun W => check_any bw bh bl W h0 h1 h2 h3
  clear h0 h1 h2 h3
  simp only [Nb.val, Nb.ok]
  generalize okB bw bh bl = t at *
  go_enter Try.func50, Try.ntmps50
  go_wp2_with (go_at_call 51; refine (HC.out _).mono ?_; rintro e w1 ⟨rfl, hb⟩)
  go_ret
  exact ⟨rfl, bstep (below1 _ _) hb⟩
set_option maxHeartbeats 1000000 in
theorem indexBad_any (a : Option Addr) (cap : Nat) (l : List Nb) (w : World) (hr : RdN w a l) (hl : l.length ≤ 140737488355328) (hn : ∀ b ∈ l, NbR b) : Calls Try.prog 70 #[.slice a l.length cap, .func (.func 50) #[] #[]] w fun e w' => e = .returned (.int .i64 (firstI (fun b => !b.ok) l)) ∧ Below w.heap.size w w' := by
  have HR := hide hr
  have HB := hide hn
  clear hr hn
  go_enter Try.func70, Try.ntmps70
  go_wp2
  go_loopw [8] (fun i wr => ∃ k : Nat, k ≤ l.length ∧ i = .int .i64 k ∧ (∀ j (hj : j < k) (hj' : j < l.length), (!l[j].ok) = false) ∧ Below w.heap.size w wr) (fun i _ => l.length - (intOf i).toNat)
  case atStart => exact ⟨0, by omega, rfl, fun j hj => absurd hj (by omega), Below.refl _ _⟩
  case round =>
    obtain ⟨k, hk, rfl, hn, hb⟩ := hrel
    have HN := hide hn
    have HW := hide hb
    clear hn hb
    by_cases hlt : k < l.length
    · obtain ⟨p, off, rfl, hp, hcl⟩ := (HR.out.below HW.out).some (by omega)
      obtain ⟨q0, q1, q2⟩ := hcl k hlt
      have hlI : (k : Int) < (l.length : Int) := by omega
      have HC := hide (badArg_any l[k] (HB.out _ (List.getElem_mem hlt)) wr)
      clear hcl
      cases ho : (!l[k].ok)
      · have HX : Hid (∀ j (hj : j < k + 1) (hj' : j < l.length), (!l[j].ok) = false) := fun j hj hj' => by
          by_cases e : j = k
          · subst e; exact ho
          · exact HN.out j (by omega) hj'
        rw [ho] at HC
        clear ho
        generalize l[k] = b at q0 q1 q2 HC
        obtain ⟨bw, bh, bl⟩ := b
        simp only [Nb.val] at *
        go_wp2_with fail
        refine HC.out.mono ?_
        rintro e w1 ⟨rfl, hb⟩
        go_wp2
        go_roundw
        case rel => exact ⟨k + 1, by omega, by go_num, HX.out, bstep HW.out hb⟩
        case measure => simp [intOf]; omega
      · have HH := hide (firstI_hit (p := fun b => !Nb.ok b) hlt ho (fun j hj => HN.out j hj (by omega)))
        rw [ho] at HC
        clear ho
        generalize l[k] = b at q0 q1 q2 HC
        obtain ⟨bw, bh, bl⟩ := b
        simp only [Nb.val] at *
        go_wp2_with fail
        refine HC.out.mono ?_
        rintro e w1 ⟨rfl, hb⟩
        go_wp2
        go_ret
        exact ⟨by rw [HH.out]; rfl, bstep HW.out hb⟩
    · obtain rfl : k = l.length := by omega
      have HH := hide (firstI_none (p := fun b => !Nb.ok b) (l := l) (fun j hj => HN.out j hj hj))
      go_wp2
      go_ret
      exact ⟨by rw [HH.out]; rfl, HW.out⟩
theorem containsBad_any (a : Option Addr) (cap : Nat) (l : List Nb) (w : World) (hr : RdN w a l) (hl : l.length ≤ 140737488355328) (hn : ∀ b ∈ l, NbR b) : Calls Try.prog 49 #[.slice a l.length cap, .func (.func 50) #[] #[]] w fun e w' => e = .returned (.bool (l.any (fun b => !b.ok))) ∧ Below w.heap.size w w' := by
  have H := hide (indexBad_any a cap l w hr hl hn)
  have E := hide (firstI_any (fun b => !Nb.ok b) l)
  clear hr hl hn
  go_enter Try.func49, Try.ntmps49
  go_wp2_with (go_at_call 70; refine H.out.mono ?_; rintro e w1 ⟨rfl, hb⟩)
  go_ret
  exact ⟨by rw [← E.out]; simp, hb⟩
end Go.Proofs.Ytoonlpdohhconaa
