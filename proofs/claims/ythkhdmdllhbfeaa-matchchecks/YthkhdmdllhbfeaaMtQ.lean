/- package match: how much an entry counts. -/
import Derived.Test.YthkhdmdllhbfeaaMtP
namespace Go.Proofs.Ythkhdmdllhbfeaa
open Go.RowKit

def preI (t : Tb) : Int := firstI (fun k => k == 2) t.ks
def wtI (t : Tb) (e : En) : Int := if weighsB t then e.prio else if 0 ≤ preI t then ((e.ms.map (·.len)).getD (preI t).toNat 0) else 0
theorem weight1_any (y : EnL) : Pure 57 #[y.val] (.int .i64 y.e.prio) := fun w => by
  obtain ⟨⟨ms, prio, act, args⟩, ma, mc, aa, ac⟩ := y
  simp only [EnL.val]
  go_enter Try.func57, Try.ntmps57
  go_wp2
  go_ret
  exact ⟨rfl, below1 _ _⟩
theorem weight3_any (y : EnL) : Pure 60 #[y.val] (.int .i64 0) := fun w => by
  obtain ⟨⟨ms, prio, act, args⟩, ma, mc, aa, ac⟩ := y
  simp only [EnL.val]
  go_enter Try.func60, Try.ntmps60
  go_wp2
  go_ret
  exact ⟨rfl, below1 _ _⟩
theorem weight2_any (y : EnL) (b k : Nat) (w : World) (hy : EnR w y) (hb : w.heap[b]? = some (.cells #[.int .i64 k] 3 (0, 0))) (hk : k < y.e.ms.length) :
    Calls Try.prog 59 #[y.val, .pointer (some ⟨b, 0, none⟩)] w fun e w' => e = .returned (.int .i64 y.e.ms[k].len) ∧ Below w.heap.size w w' := by
  obtain ⟨p, off, ep, hp, hcl⟩ := hy.ms.some (by omega)
  have q6 : ∀ o, (w.alloc o).cell? ⟨p, off + k * 7 + 6, none⟩ = some (.int .i64 y.e.ms[k].len) := fun o => ((below1 w o).cell (p := ⟨p, off + k * 7 + 6, none⟩) hp).trans (hcl k hk).2.2.2.2.2.2
  have c0 := fun o => (at1 (heap_past o hb)).1
  have hlI : (k : Int) < (y.e.ms.length : Int) := by omega
  clear hcl hy hb
  generalize y.e.ms[k].len = n at *
  obtain ⟨⟨ms, prio, act, args⟩, ma, mc, aa, ac⟩ := y
  simp only [EnL.val] at *
  subst ep
  go_enter Try.func59, Try.ntmps59
  go_wp2
  go_ret
  exact ⟨rfl, below1 _ _⟩
/- The function that is answered. -/
def WfV (t : Tb) (fv : Value) (W : World) : Prop :=
  (weighsB t = true ∧ fv = .func (.func 57) #[] #[]) ∨ (weighsB t = false ∧ ∃ k b : Nat, preI t = k ∧ fv = .func (.func 59) #[] #[.pointer (some ⟨b, 0, none⟩)] ∧ W.heap[b]? = some (.cells #[.int .i64 k] 3 (0, 0))) ∨ (weighsB t = false ∧ preI t = -1 ∧ fv = .func (.func 60) #[] #[])
theorem preI_cases (t : Tb) : preI t = -1 ∨ ∃ k : Nat, preI t = k ∧ k < t.ks.length := by
  rcases firstI_cases (fun k => k == 2) t.ks with ⟨e, _⟩ | ⟨k, h, e, _⟩
  · exact .inl e
  · exact .inr ⟨k, e, h⟩
set_option maxHeartbeats 2000000 in
theorem weigher_any (x : TbL) (w : World) (hx : TbR w x) : Calls Try.prog 40 #[x.val] w fun e w' => ∃ fv, e = .returned fv ∧ WfV x.t fv w' ∧ Below w.heap.size w w' := by
  have hmf : ∀ (fn : Fn) (first cap : Array Value) (w : World), (Instr.makeFunc fn first cap).run Try.prog w = .ok (.func fn first cap) w := fun _ _ _ _ => rfl
  have HW : Hid (∀ W, Below w.heap.size w W → _) := fun W hb => weighs_any x W (hx.below hb)
  have HI : Hid (∀ W, Below w.heap.size w W → _) := fun W hb => index_any x.ka x.kc x.t.ks 2 W (hx.ks.below hb) hx.kn
  have HP := hide (preI_cases x.t)
  clear hx
  have HI' : Hid (∀ W, Below w.heap.size w W → Calls Try.prog 58 #[.slice x.ka x.t.ks.length x.kc, .int .u8 2] W fun e w' => e = .returned (.int .i64 (preI x.t)) ∧ w' = W) := HI
  clear HI
  suffices H : ∀ Q : Ending → World → Prop, (∀ fv W', WfV x.t fv W' → Below w.heap.size w W' → Q (.returned fv) W') → Calls Try.prog 40 #[x.val] w Q from H _ (fun fv W' h1 h2 => ⟨fv, rfl, h1, h2⟩)
  intro Q hQ
  have HQ := hide hQ
  clear hQ
  unfold WfV at HQ
  generalize weighsB x.t = t at *
  generalize preI x.t = r at *
  obtain ⟨⟨ks, ws, size⟩, ka, kc, wa, wc⟩ := x
  simp only [TbL.val] at *
  cases t
  · rcases HP.out with rfl | ⟨k, rfl, hk⟩
    · go_enter Try.func40, Try.ntmps40
      go_wp2_with fail
      refine (HW.out _ (below1 _ _)).mono ?_
      rintro e w1 ⟨rfl, hb⟩
      have B1 := hide (bstep (below1 _ _) hb)
      obtain ⟨c0, -, -, -⟩ := at3 (heap_below hb (heap_alloc_new _ _))
      clear hb
      go_wp2_with fail
      refine (HI'.out _ B1.out).mono ?_
      rintro e w2 ⟨rfl, rfl⟩
      go_wp2
      exact HQ.out _ _ (.inr (.inr ⟨by first | rfl | trivial, by first | rfl | trivial, rfl⟩)) (bstep B1.out (below1 _ _))
    · go_enter Try.func40, Try.ntmps40
      go_wp2_with fail
      refine (HW.out _ (below1 _ _)).mono ?_
      rintro e w1 ⟨rfl, hb⟩
      have B1 := hide (bstep (below1 _ _) hb)
      obtain ⟨c0, -, -, -⟩ := at3 (heap_below hb (heap_alloc_new _ _))
      clear hb
      have hk0 : (0 : Int) ≤ (k : Int) := by omega
      go_wp2_with fail
      refine (HI'.out _ B1.out).mono ?_
      rintro e w2 ⟨rfl, rfl⟩
      go_wp2
      exact HQ.out _ _ (.inr (.inl ⟨by first | rfl | trivial, k, _, by first | rfl | trivial, rfl, heap_alloc_new _ _⟩)) (bstep B1.out (below1 _ _))
  · go_enter Try.func40, Try.ntmps40
    go_wp2_with fail
    refine (HW.out _ (below1 _ _)).mono ?_
    rintro e w1 ⟨rfl, hb⟩
    go_wp2
    exact HQ.out _ _ (.inl ⟨by first | rfl | trivial, rfl⟩) (bstep (below1 _ _) hb)
end Go.Proofs.Ythkhdmdllhbfeaa
