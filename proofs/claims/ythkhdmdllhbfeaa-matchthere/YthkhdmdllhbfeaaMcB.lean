/- package match: Delete. -/
import Derived.Test.YthkhdmdllhbfeaaMcA
import Derived.RegionTactic
namespace Go.Proofs.Ythkhdmdllhbfeaa
open Go.RowKit

theorem rdE_piece {W : World} {p off : Nat} {l : List EnL} (h : RdE W (some ⟨p, off, none⟩) l) (i n : Nat) : RdE W (some ⟨p, off + i * 4, none⟩) ((l.drop i).take n) := by
  refine ⟨?_, fun x hx => h.ok x (List.mem_of_mem_drop (List.mem_of_mem_take hx))⟩
  rcases h.rd with rfl | ⟨p', off', e, hp, hc⟩
  · exact .inl (by simp)
  · injection e with e
    injection e with e1 e2
    subst e1 e2
    refine .inr ⟨p, off + i * 4, rfl, hp, fun k hk => ?_⟩
    have hk' : i + k < l.length := by simp at hk; omega
    have e : ((l.drop i).take n)[k] = l[i + k] := by simp
    have := hc (i + k) hk'
    rw [e, show off + i * 4 + k * 4 = off + (i + k) * 4 by omega]
    exact this
theorem rdE_head {W : World} {p off : Nat} {l : List EnL} (h : RdE W (some ⟨p, off, none⟩) l) (i : Nat) : RdE W (some ⟨p, off, none⟩) (l.take i) := by
  have := rdE_piece h 0 i
  rw [Nat.zero_mul, Nat.add_zero, List.drop_zero] at this
  exact this
theorem rdE_tail {W : World} {p off : Nat} {l : List EnL} (h : RdE W (some ⟨p, off, none⟩) l) (i : Nat) : RdE W (some ⟨p, off + i * 4, none⟩) (l.drop i) := by
  have := rdE_piece h i l.length
  rw [List.take_of_length_le (by simp)] at this
  exact this
theorem rdE_none {W : World} (a : Option Addr) : RdE W a [] := ⟨.inl rfl, fun x hx => absurd hx (by simp)⟩
/- Two pieces beside one another. -/
theorem two_pieces {W : World} {p c2 : Nat} {a1 a2 : Option Addr} {c1 n1 n2 : Nat} {l1 l2 : List EnL} (h1 : RdE W a1 l1) (h2 : RdE W a2 l2) (e1 : n1 = l1.length) (e2 : n2 = l2.length) (hp : W.heap[p]? = some (.cells #[.slice a1 n1 c1, .slice a2 n2 c2] 26 (0, 0))) : Rd2 W p [⟨l1, a1, c1⟩, ⟨l2, a2, c2⟩] := by
  subst e1 e2
  refine ⟨lt_heap hp, fun i hi => ?_, fun x hx => ?_⟩
  · rcases (by simp at hi; omega : i = 0 ∨ i = 1) with rfl | rfl
    · rw [cellA hp]; rfl
    · rw [cellA hp]; rfl
  · simp only [List.mem_cons, List.not_mem_nil, or_false] at hx
    rcases hx with rfl | rfl
    · exact h1
    · exact h2
set_option maxRecDepth 100000 in
set_option maxHeartbeats 4000000 in
theorem delete_no (x : TbL) (a : Option Addr) (cap : Nat) (l : List EnL) (y : EnL) (w : World) (hx : TbR w x) (hl : RdE w a l) (hy : EnR w y) (hn : l.length ≤ 900000) (c : Int) (hc : (thI x.t (ens l) y.e).2 = c) (h0 : c ≠ 0) :
    Calls Try.prog 14 #[x.val, .slice a l.length cap, y.val] w fun e w' => e = .returned (.tuple #[.slice none 0 0, .int .i64 c]) ∧ Below w.heap.size w w' := by
  have HT : Hid (∀ W, Below w.heap.size w W → _) := fun W hb => there_any x a cap l y W (hx.below hb) (hl.below hb) (hy.below hb) hn
  rw [hc] at HT
  have f1 : (c == 0) = false := by simp [h0]
  have f2 : (c = 0) = False := by simp [h0]
  generalize (thI x.t (ens l) y.e).1 = r at *
  clear hx hl hy hn hc h0
  obtain ⟨⟨ks, ws, size⟩, ka, kc, wa, wc⟩ := x
  obtain ⟨⟨ms, prio, act, args⟩, ma, mc, aa, ac⟩ := y
  simp only [TbL.val, EnL.val] at *
  generalize l.length = n at *
  generalize ks.length = n1 at *
  generalize ws.length = n2 at *
  generalize ms.length = n3 at *
  generalize args.length = n4 at *
  go_enter Try.func14, Try.ntmps14
  go_wp2_with fail
  refine (HT.out _ (below2 _ _ _)).mono ?_
  rintro e w1 ⟨rfl, hb⟩
  go_wp2
  refine bodyPost_ret (v := .tuple #[.slice none 0 0, .int .i64 c]) (by simp [results, Try.results14, go_sem]) rfl ⟨rfl, ?_⟩
  exact bstep (below2 _ _ _) hb
set_option maxRecDepth 100000 in
set_option maxHeartbeats 8000000 in
theorem delete_yes (x : TbL) (a : Option Addr) (cap : Nat) (l : List EnL) (y : EnL) (w : World) (hx : TbR w x) (hl : RdE w a l) (hy : EnR w y) (hn : l.length ≤ 900000) (hcap : l.length ≤ cap) (k : Nat) (hk : k < l.length) (hc : thI x.t (ens l) y.e = ((k : Int), 0)) :
    Calls Try.prog 14 #[x.val, .slice a l.length cap, y.val] w fun e w' => ∃ v acc, e = .returned (.tuple #[v, .int .i64 0]) ∧ ens acc = (ens l).take k ++ (ens l).drop (k + 1) ∧ Cp w w' v acc := by
  obtain ⟨p, off, rfl, -, -⟩ := hl.some (by omega)
  suffices H : ∀ Q : Ending → World → Prop, (∀ v acc W', ens acc = (ens l).take k ++ (ens l).drop (k + 1) → Cp w W' v acc → Q (.returned (.tuple #[v, .int .i64 0])) W') → Calls Try.prog 14 #[x.val, .slice (some ⟨p, off, none⟩) l.length cap, y.val] w Q from H _ (fun v acc W' h1 h2 => ⟨v, acc, rfl, h1, h2⟩)
  intro Q hQ
  have HQ := hide hQ
  clear hQ
  have HT : Hid (∀ W, Below w.heap.size w W → _) := fun W hb => there_any x (some ⟨p, off, none⟩) cap l y W (hx.below hb) (hl.below hb) (hy.below hb) hn
  rw [hc] at HT
  have HCP : Hid (∀ (W : World) (q c1 c2 n1 n2 : Nat) (a2 : Option Addr), Below w.heap.size w W → (a2 = some ⟨p, off + (k + 1) * 4, none⟩ ∨ l.drop (k + 1) = []) → n1 = (l.take k).length → n2 = (l.drop (k + 1)).length → W.heap[q]? = some (.cells #[.slice (some ⟨p, off, none⟩) n1 c1, .slice a2 n2 c2] 26 (0, 0)) → Calls Try.prog 33 #[.slice (some ⟨q, 0, none⟩) 2 2] W fun e w' => ∃ v acc, e = .returned v ∧ ens acc = (ens l).take k ++ (ens l).drop (k + 1) ∧ Cp w w' v acc) := fun W q c1 c2 n1 n2 a2 hb ha e1 e2 hq => by
    have h2 : RdE W a2 (l.drop (k + 1)) := by
      rcases ha with rfl | h
      · exact rdE_tail (hl.below hb) (k + 1)
      · rw [h]; exact rdE_none _
    refine (copied_any q 2 _ W (two_pieces (rdE_head (hl.below hb) k) h2 e1 e2 hq) (by simp) (by simp [allE, ens_len]; omega)).mono ?_
    rintro e w' ⟨v, acc, rfl, hacc, hcp⟩
    refine ⟨v, acc, rfl, ?_, hcp.from hb⟩
    rw [hacc]
    simp [allE, ens, List.map_take, List.map_drop]
  have hkI : ((k : Int) < (l.length : Int)) := by omega
  have w1 : IntKind.i64.wrap ((k : Int) + 1) = (k : Int) + 1 := by rw [IntKind.wrap_i64]; omega
  have HK1 := hide (show (l.take k).length = k by simp; omega)
  have HK2 := hide (show (l.drop (k + 1)).length = l.length - (k + 1) by simp)
  have HD : Hid (l.length ≤ k + 1 → l.drop (k + 1) = []) := fun h => List.drop_eq_nil_of_le h
  have HKL := hide hk
  have HCA := hide hcap
  clear hx hl hy hn hc
  obtain ⟨⟨ks, ws, size⟩, ka, kc, wa, wc⟩ := x
  obtain ⟨⟨ms, prio, act, args⟩, ma, mc, aa, ac⟩ := y
  simp only [TbL.val, EnL.val] at *
  generalize l.length = n at *
  generalize ks.length = n1 at *
  generalize ws.length = n2 at *
  generalize ms.length = n3 at *
  generalize args.length = n4 at *
  have l1 : ((k : Int) ≤ (cap : Int)) = True := by simp; omega
  have l2 : ((k : Int) + 1 ≤ (n : Int)) = True := by simp; omega
  have l3 : ((k : Int) < 0) = False := by simp
  have l4 : ((k : Int) + 1 < 0) = False := by simp; omega
  go_enter Try.func14, Try.ntmps14
  go_wp2_with fail
  refine (HT.out _ (below2 _ _ _)).mono ?_
  rintro e w1 ⟨rfl, hb⟩
  have B1 := hide (bstep (below2 _ _ _) hb)
  clear hb hcap hk
  go_wp2
  by_cases hcc : cap = k + 1
  · have g1 : (cap = k + 1) = True := by simp [hcc]
    have g2 := HCA.out
    have g3 := HKL.out
    go_region_with (go_at_call 33; refine (HCP.out _ _ _ _ _ _ _ (bstep B1.out (below1 _ _)).drew (by first | exact .inl rfl | exact .inr (HD.out (by have := HCA.out; omega))) HK1.out.symm (by rw [HK2.out]; try omega) (heap_alloc_new w1 _)).mono ?_; rintro e w5 ⟨v, acc, rfl, hacc, hcp⟩; have HAC := hide hacc; have HC5 := hide hcp; clear hacc hcp)
    all_goals
      go_wp2
      refine bodyPost_ret (v := .tuple #[v, .int .i64 0]) (by simp [results, Try.results14, go_sem, Act.put]) rfl ?_
      exact HQ.out _ _ _ HAC.out HC5.out
  · have g1 : (cap = k + 1) = False := by simp [hcc]
    go_region_with (go_at_call 33; refine (HCP.out _ _ _ _ _ _ _ (bstep B1.out (below1 _ _)).drew (by first | exact .inl rfl | exact .inr (HD.out (by have := HCA.out; omega))) HK1.out.symm (by rw [HK2.out]; try omega) (heap_alloc_new w1 _)).mono ?_; rintro e w5 ⟨v, acc, rfl, hacc, hcp⟩; have HAC := hide hacc; have HC5 := hide hcp; clear hacc hcp)
    all_goals
      go_wp2
      refine bodyPost_ret (v := .tuple #[v, .int .i64 0]) (by simp [results, Try.results14, go_sem, Act.put]) rfl ?_
      exact HQ.out _ _ _ HAC.out HC5.out
end Go.Proofs.Ythkhdmdllhbfeaa
