/- How great a case is. -/
import Derived.Test.YthkhdmdllhbfeaaRowC
namespace Go.Proofs.Ythkhdmdllhbfeaa
open Go.RowKit

def szE (e : En) : Nat := if 1 + e.act.size ≤ 1048576 then (if 1 + e.act.size + e.ms.length ≤ 1048576 then 1 + e.act.size + e.ms.length + e.args.length else 1 + e.act.size + e.ms.length) else 1 + e.act.size
def szF : Nat → List En → Nat
  | n, [] => n
  | n, e :: l => if n ≤ 1048576 then szF (n + szE e) l else n
def esz (l : List En) : Nat := szF l.length l
theorem szF_le : ∀ (l : List En) (n : Nat), n ≤ szF n l
  | [], n => Nat.le_refl _
  | e :: l, n => by
    rw [szF]
    split
    · have := szF_le l (n + szE e); omega
    · omega
theorem szF_mem : ∀ (l : List En) (n : Nat), szF n l ≤ 1048576 → ∀ e ∈ l, szE e ≤ szF n l
  | [], _, _, e, h => by simp at h
  | x :: l, n, hs, e, h => by
    rw [szF] at hs ⊢
    by_cases hn : n ≤ 1048576
    · rw [if_pos hn] at hs ⊢
      rcases List.mem_cons.1 h with rfl | h
      · have := szF_le l (n + szE e); omega
      · exact szF_mem l _ hs e h
    · rw [if_neg hn] at hs; omega
theorem szF_bd (B : Nat) : ∀ (l : List En) (n : Nat), (∀ e ∈ l, szE e ≤ B) → n ≤ 1048576 + B → szF n l ≤ 1048576 + B
  | [], n, _, hn => hn
  | e :: l, n, h, hn => by
    rw [szF]
    split
    · exact szF_bd B l _ (fun x hx => h x (by simp [hx])) (by have := h e (by simp); omega)
    · exact hn
theorem szF_step (l : List En) (k n : Nat) (h : k < l.length) (hn : n ≤ 1048576) : szF n (l.drop k) = szF (n + szE l[k]) (l.drop (k + 1)) := by
  rw [List.drop_eq_getElem_cons h, szF, if_pos hn]
theorem szF_stop (l : List En) (n : Nat) (hn : 1048576 < n) : szF n l = n := by
  cases l with
  | nil => rfl
  | cons e l => rw [szF, if_neg (by omega)]
theorem szE_bd {e : En} (h1 : e.act.size ≤ 140737488355328) (h2 : e.ms.length ≤ 140737488355328) (h3 : e.args.length ≤ 140737488355328) : szE e ≤ 500000000000000 := by
  unfold szE; split
  · split <;> omega
  · omega
theorem szE_small {e : En} (h : szE e ≤ 30000) : e.act.size ≤ 30000 ∧ e.ms.length ≤ 30000 ∧ e.args.length ≤ 30000 := by
  unfold szE at h
  split at h
  · split at h <;> omega
  · omega
theorem EnO.small {W : World} {x : EnL} (h : EnO W x) (hs : szE x.e ≤ 30000) : EnR W x := by
  obtain ⟨_, h2, h3⟩ := szE_small hs
  exact ⟨h.ms, h.args, by omega, by omega, h.mr, h.ar, h.pr, h.mz, h.az⟩
theorem EnO.below {W W' : World} {x : EnL} (h : EnO W x) (hb : Below W.heap.size W W') : EnO W' x := ⟨h.ms.below hb, h.args.below hb, h.mb, h.ab, h.sb, h.mr, h.ar, h.pr, h.mz, h.az⟩
theorem RdEO.below {W W' : World} {a : Option Addr} {l : List EnL} (h : RdEO W a l) (hb : Below W.heap.size W W') : RdEO W' a l := by
  refine ⟨?_, fun x hx => (h.ok x hx).below hb⟩
  rcases h.rd with h | ⟨p, off, rfl, hp, hc⟩
  · exact .inl h
  · exact .inr ⟨p, off, rfl, Nat.lt_of_lt_of_le hp hb.size, fun i hi => ⟨(hb.cell (p := ⟨p, _, none⟩) hp).trans (hc i hi).1, (hb.cell (p := ⟨p, _, none⟩) hp).trans (hc i hi).2.1, (hb.cell (p := ⟨p, _, none⟩) hp).trans (hc i hi).2.2.1, (hb.cell (p := ⟨p, _, none⟩) hp).trans (hc i hi).2.2.2⟩⟩
theorem RdEO.small {W : World} {a : Option Addr} {l : List EnL} (h : RdEO W a l) (hs : ∀ x ∈ l, szE x.e ≤ 30000) : RdE W a l := ⟨h.rd, fun x hx => (h.ok x hx).small (hs x hx)⟩
theorem mxSize_any (a : Option Addr) (n c : Nat) (w : World) : Calls Try.prog 36 #[.slice a n c] w fun e w' => e = .returned (.int .i64 (n : Int)) ∧ w' = w := by
  go_enter Try.func36, Try.ntmps36
  go_wp2
  go_ret
  exact ⟨rfl, rfl⟩
theorem nbSize_any (a : Option Addr) (n c : Nat) (w : World) : Calls Try.prog 37 #[.slice a n c] w fun e w' => e = .returned (.int .i64 (n : Int)) ∧ w' = w := by
  go_enter Try.func37, Try.ntmps37
  go_wp2
  go_ret
  exact ⟨rfl, rfl⟩
set_option maxHeartbeats 2000000 in
theorem enSize_any (y : EnL) (h1 : y.e.act.size ≤ 140737488355328) (h2 : y.e.ms.length ≤ 140737488355328) (h3 : y.e.args.length ≤ 140737488355328) : Pure 17 #[y.val] (.int .i64 (szE y.e : Nat)) := fun w => by
  unfold szE
  obtain ⟨⟨ms, prio, act, args⟩, ma, mc, aa, ac⟩ := y
  simp only [EnL.val] at *
  have HM : Hid (∀ W, _) := fun W => mxSize_any ma ms.length mc W
  have HA : Hid (∀ W, _) := fun W => nbSize_any aa args.length ac W
  have e1 : IntKind.i64.wrap (1 + (act.size : Int)) = ((1 + act.size : Nat) : Int) := by rw [IntKind.wrap_i64]; omega
  have e2 : IntKind.i64.wrap (((1 + act.size : Nat) : Int) + (ms.length : Int)) = ((1 + act.size + ms.length : Nat) : Int) := by rw [IntKind.wrap_i64]; omega
  have e3 : IntKind.i64.wrap (((1 + act.size + ms.length : Nat) : Int) + (args.length : Int)) = ((1 + act.size + ms.length + args.length : Nat) : Int) := by rw [IntKind.wrap_i64]; omega
  generalize hA : 1 + act.size = A at *
  generalize hB : A + ms.length = B at *
  generalize hC : B + args.length = C at *
  clear hA hB hC
  by_cases c1 : A ≤ 1048576
  · have d1 : ((A : Int) ≤ 1048576) = True := by simp; omega
    by_cases c2 : B ≤ 1048576
    · have d2 : ((B : Int) ≤ 1048576) = True := by simp; omega
      rw [if_pos c1, if_pos c2]
      clear h1 h2 h3 c1 c2
      go_enter Try.func17, Try.ntmps17
      go_wp2_with (first | (go_at_call 36; refine (HM.out _).mono ?_; rintro e w1 ⟨rfl, rfl⟩) | (go_at_call 37; refine (HA.out _).mono ?_; rintro e w1 ⟨rfl, rfl⟩))
      go_ret
      exact ⟨rfl, below1 _ _⟩
    · have d2 : ((B : Int) ≤ 1048576) = False := by simp; omega
      rw [if_pos c1, if_neg c2]
      clear h1 h2 h3 c1 c2
      go_enter Try.func17, Try.ntmps17
      go_wp2_with (first | (go_at_call 36; refine (HM.out _).mono ?_; rintro e w1 ⟨rfl, rfl⟩) | (go_at_call 37; refine (HA.out _).mono ?_; rintro e w1 ⟨rfl, rfl⟩))
      go_ret
      exact ⟨rfl, below1 _ _⟩
  · have d1 : ((A : Int) ≤ 1048576) = False := by simp; omega
    rw [if_neg c1]
    by_cases c2 : B ≤ 1048576
    all_goals
      clear h1 h2 h3 c1 c2
      go_enter Try.func17, Try.ntmps17
      go_wp2
      go_ret
      exact ⟨rfl, below1 _ _⟩
end Go.Proofs.Ythkhdmdllhbfeaa
