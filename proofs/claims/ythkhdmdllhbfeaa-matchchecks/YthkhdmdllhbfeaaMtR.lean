/- package match: the entries that match, one after the other. -/
import Derived.Test.YthkhdmdllhbfeaaMtQ
import Derived.Test.YthkhdmdllhbfeaaInQuiet
namespace Go.Proofs.Ythkhdmdllhbfeaa
open Go.RowKit Go.Shelf

def hitB (t : Tb) (keys : List Nb) (e : En) : Bool := e.ms.length == keys.length && allI (mtB t keys) 0 e.ms
/- What matching has laid. -/
structure Mg (W : World) (x : TbL) (la : Option Addr) (ln lc : Nat) (ka : Option Addr) (kn kc : Nat) (tb lb kb rb hb : Nat) : Prop where
  t : TbB W tb x
  l : W.heap[lb]? = some (.cells #[.slice la ln lc] 26 (0, 0))
  k : NbS W kb ka kn kc
  r : KiB W rb
  h : W.heap[hb]? = some (.cells #[.func (.func 62) #[] #[.pointer (some ⟨kb, 0, none⟩), .pointer (some ⟨rb, 0, none⟩), .pointer (some ⟨tb, 0, none⟩)]] 96 (0, 0))
set_option maxHeartbeats 2000000 in
theorem matching_any (x : TbL) (la ka : Option Addr) (ln lc kn kc : Nat) (w : World) : Calls Try.prog 41 #[x.val, .slice la ln lc, .slice ka kn kc] w fun e w' => ∃ tb lb kb rb hb, e = .returned (.func (.func 63) #[] #[.pointer (some ⟨lb, 0, none⟩), .pointer (some ⟨kb, 0, none⟩), .pointer (some ⟨hb, 0, none⟩)]) ∧ Mg w' x la ln lc ka kn kc tb lb kb rb hb ∧ w.heap.size ≤ tb ∧ w.heap.size ≤ lb ∧ w.heap.size ≤ kb ∧ w.heap.size ≤ rb ∧ w.heap.size ≤ hb ∧ Below w.heap.size w w' := by
  have hmf : ∀ (fn : Fn) (first cap : Array Value) (w : World), (Instr.makeFunc fn first cap).run Try.prog w = .ok (.func fn first cap) w := fun _ _ _ _ => rfl
  have HK : Hid (Pure _ _ _) := kinds_lit
  suffices H : ∀ Q : Ending → World → Prop, (∀ tb lb kb rb hb W', Mg W' x la ln lc ka kn kc tb lb kb rb hb → w.heap.size ≤ tb → w.heap.size ≤ lb → w.heap.size ≤ kb → w.heap.size ≤ rb → w.heap.size ≤ hb → Below w.heap.size w W' → Q (.returned (.func (.func 63) #[] #[.pointer (some ⟨lb, 0, none⟩), .pointer (some ⟨kb, 0, none⟩), .pointer (some ⟨hb, 0, none⟩)])) W') → Calls Try.prog 41 #[x.val, .slice la ln lc, .slice ka kn kc] w Q from H _ (fun tb lb kb rb hb W' h1 h2 h3 h4 h5 h6 h7 => ⟨tb, lb, kb, rb, hb, rfl, h1, h2, h3, h4, h5, h6, h7⟩)
  intro Q hQ
  have HQ := hide hQ
  clear hQ
  have HT : Hid (∀ W b, TbB W b x ↔ W.heap[b]? = some (.cells #[.slice x.ka x.t.ks.length x.kc, .slice x.wa x.t.ws.length x.wc, .int .i64 x.t.size] 25 (0, 0))) := fun _ _ => Iff.rfl
  obtain ⟨⟨ks, ws, size⟩, xka, xkc, xwa, xwc⟩ := x
  simp only [TbL.val] at *
  go_enter Try.func41, Try.ntmps41
  go_wp2_with fail
  refine (HK.out _).mono ?_
  rintro e w1 ⟨rfl, hb⟩
  have hsz := hb.size
  simp only [World.size_alloc] at hsz
  have B1 := hide (bstep (bstep (below2 _ _ _) (below1 _ _)) hb)
  have K1 := hide (heap_below hb (heap_past _ (heap_past _ (heap_alloc_new w _))))
  have K2 := hide (heap_below hb (heap_past _ (heap_snd w _ _ _)))
  have K3 := heap_below hb (heap_alloc_new ((w.alloc _).alloc _) _)
  simp only [World.size_alloc] at K3
  have K4 := hide K3
  clear hb K3
  go_wp2
  refine HQ.out w.heap.size (w.heap.size + 1) (w.heap.size + 1 + 1) w1.heap.size (w1.heap.size + 1) _ ⟨heap_past _ (heap_past _ K1.out), heap_past _ (heap_past _ K2.out), heap_past _ (heap_past _ K4.out), heap_past _ (kiB_new _), heap_snd _ _ _ _⟩ (by omega) (by omega) (by omega) (by omega) (by omega) (bstep B1.out (below2 _ _ _))
end Go.Proofs.Ythkhdmdllhbfeaa
