/- package match: Insert. -/
import Derived.Test.YthkhdmdllhbfeaaMtN
namespace Go.Proofs.Ythkhdmdllhbfeaa
open Go.RowKit

theorem Cp.rd {w W : World} {v : Value} {acc : List EnL} (h : Cp w W v acc) : ∃ a cap, v = .slice a acc.length cap ∧ RdE W a acc ∧ (a = none → cap = 0) ∧ acc.length ≤ cap ∧ ∀ q, a = some q → w.heap.size ≤ q.block := by
  rcases own_form h.own with ⟨hv, hn⟩ | ⟨g, cap, hv, hg, hlt, hc⟩
  · have h0 : acc = [] := List.length_eq_zero_iff.1 hn
    subst h0
    exact ⟨none, 0, hv, ⟨.inl rfl, fun x hx => absurd hx (by simp)⟩, fun _ => rfl, Nat.le_refl _, fun q e => by cases e⟩
  · refine ⟨_, cap, hv, ⟨.inr ⟨g, 0, rfl, hlt, fun i hi => ?_⟩, fun x hx => (h.ok x hx).1⟩, fun e => (by cases e), hc, fun q e => (by cases e; exact hg)⟩
    have key := own_cell en_len h.own hv i hi
    exact ⟨key 0 _ rfl, key 1 _ rfl, key 2 _ rfl, key 3 _ rfl⟩
theorem Cp.none {w W : World} (h : Below w.heap.size w W) : Cp w W (.slice none 0 0) [] := ⟨h, World.ownsRow_nil _ _ _ _, fun x hx => absurd hx (by simp)⟩
theorem own_lower {W : World} {B B' c n : Nat} {e : TypeId} {v : Value} {xs : List Value} (h : W.ownsRow B e c v n xs) (hb : B' ≤ B) : W.ownsRow B' e c v n xs := by
  refine ⟨h.1, ?_⟩
  rcases h.2 with h0 | ⟨gr, cap, cur, rfl, hg, rest⟩
  · exact .inl h0
  · exact .inr ⟨gr, cap, cur, rfl, Nat.le_trans hb hg, rest⟩
theorem Cp.from {w w0 W : World} {v : Value} {acc : List EnL} (h : Cp w W v acc) (hb : Below w0.heap.size w0 w) : Cp w0 W v acc := by
  refine ⟨bstep hb h.bl, ?_, h.ok⟩
  exact own_lower h.own hb.size
theorem ens_len (l : List EnL) : (ens l).length = l.length := by simp [ens]
theorem firstI_ens (p : En → Bool) (l : List EnL) : firstI (fun x : EnL => p x.e) l = firstI p (ens l) := by
  unfold firstI ens; rw [List.findIdx?_map]; rfl
def hereI (l : List En) (e : En) : Int := firstI (fun x => sameP x e) l
def insI (t : Tb) (l : List En) (e : En) : Int := if chkB t e then (if 0 ≤ hereI l e then 12 else if t.size ≤ l.length then 10 else 0) else 1
theorem two_lists {W : World} {a : Option Addr} {cap : Nat} {l : List EnL} {y : EnL} {c p : Nat} (hl : RdE W a l) (hy : EnR W y) (hc : EnB W c y) (hp : W.heap[p]? = some (.cells #[.slice a l.length cap, .slice (some ⟨c, 0, none⟩) 1 1] 26 (0, 0))) : Rd2 W p [⟨l, a, cap⟩, ⟨[y], some ⟨c, 0, none⟩, 1⟩] := by
  refine ⟨lt_heap hp, fun i hi => ?_, fun x hx => ?_⟩
  · rcases (by simp at hi; omega : i = 0 ∨ i = 1) with rfl | rfl
    · rw [cellA hp]; rfl
    · rw [cellA hp]; rfl
  · simp only [List.mem_cons, List.not_mem_nil, or_false] at hx
    rcases hx with rfl | rfl
    · exact hl
    · refine ⟨.inr ⟨c, 0, rfl, lt_heap hc, fun i hi => ?_⟩, fun x hx => ?_⟩
      · obtain rfl : i = 0 := by simp at hi; omega
        obtain ⟨h0, h1, h2, h3, -⟩ := at4 hc
        exact ⟨h0, h1, h2, h3⟩
      · have : x = y := by simpa using hx
        subst this; exact hy
set_option maxRecDepth 100000 in
set_option maxHeartbeats 4000000 in
theorem insert_any (x : TbL) (a : Option Addr) (cap : Nat) (l : List EnL) (y : EnL) (w : World) (hx : TbR w x) (hl : RdE w a l) (hy : EnR w y) (hn : l.length ≤ 900000) :
    Calls Try.prog 12 #[x.val, .slice a l.length cap, y.val] w fun e w' => ∃ v acc, e = .returned (.tuple #[v, .int .i64 (insI x.t (ens l) y.e)]) ∧ ens acc = (if insI x.t (ens l) y.e = 0 then ens l ++ [y.e] else []) ∧ Cp w w' v acc := by
  suffices H : ∀ Q : Ending → World → Prop, (∀ v acc W', ens acc = (if insI x.t (ens l) y.e = 0 then ens l ++ [y.e] else []) → Cp w W' v acc → Q (.returned (.tuple #[v, .int .i64 (insI x.t (ens l) y.e)])) W') → Calls Try.prog 12 #[x.val, .slice a l.length cap, y.val] w Q from H _ (fun v acc W' h1 h2 => ⟨v, acc, rfl, h1, h2⟩)
  intro Q hQ
  have HQ := hide hQ
  clear hQ
  have HC : Hid (∀ W, Below w.heap.size w W → _) := fun W hb => check13_any x y W (hx.below hb) (hy.below hb)
  have HP : Hid (∀ W, Below w.heap.size w W → _) := fun W hb => placeOf_any a cap l y W (hl.below hb) (by omega) (hy.below hb)
  have HL := hide hl
  have HY := hide hy
  have HN := hide hn
  unfold insI chkI at *
  have HH : Hid (firstI (fun x : EnL => sameP x.e y.e) l = hereI (ens l) y.e) := firstI_ens (fun x => sameP x y.e) l
  rw [HH.out] at HP
  have HS : Hid (-1 ≤ hereI (ens l) y.e ∧ hereI (ens l) y.e < 1000000) := by
    have := firstI_lt (fun x => sameP x y.e) (ens l)
    rw [ens_len] at this
    unfold hereI
    show _ ∧ _
    omega
  clear hx hl hy hn
  generalize hereI (ens l) y.e = r at *
  generalize chkB x.t y.e = t at *
  obtain ⟨⟨ks, ws, size⟩, ka, kc, wa, wc⟩ := x
  have HEN : Hid (∀ W b, EnB W b y ↔ W.heap[b]? = some (.cells #[.slice y.ma y.e.ms.length y.mc, .int .i64 y.e.prio, .string y.e.act, .slice y.aa y.e.args.length y.ac] 30 (0, 0))) := fun _ _ => Iff.rfl
  obtain ⟨⟨ms, prio, act, args⟩, ma, mc, aa, ac⟩ := y
  simp only [TbL.val, EnL.val] at *
  cases t
  · simp only [Bool.false_eq_true, if_false] at HC HQ
    go_enter Try.func12, Try.ntmps12
    go_wp2_with fail
    refine (HC.out _ (below2 _ _ _)).mono ?_
    rintro e w1 ⟨rfl, hb⟩
    go_wp2
    exact HQ.out _ [] _ rfl (Cp.none (bstep (below2 _ _ _) hb))
  · simp only [if_true] at HC HQ
    go_enter Try.func12, Try.ntmps12
    go_wp2_with fail
    refine (HC.out _ (below2 _ _ _)).mono ?_
    rintro e w1 ⟨rfl, hb⟩
    have B1 := hide (bstep (below2 _ _ _) hb)
    have T1 := hide (heap_below hb (heap_past _ (heap_alloc_new _ _)))
    have E1 := hide (heap_below hb (heap_snd _ _ _ _))
    obtain ⟨b0, b1, b2, b3, -⟩ := at4 E1.out
    clear hb
    go_wp2_with fail
    refine (HP.out _ B1.out).mono ?_
    rintro e w2 ⟨rfl, hb2⟩
    have B2 := hide (bstep B1.out hb2)
    obtain ⟨c0, c1, c2, -⟩ := at3 (heap_below hb2 T1.out)
    have E2 := hide (heap_below hb2 E1.out)
    obtain ⟨d0, d1, d2, d3, -⟩ := at4 E2.out
    clear hb2 b0 b1 b2 b3
    by_cases h1 : 0 ≤ r
    · have f1 : (r == -1) = false := by simp; omega
      have f2 : (r = -1) = False := by simp; omega
      rw [if_pos h1] at HQ
      clear HS
      go_wp2
      exact HQ.out _ [] _ rfl (Cp.none B2.out)
    · obtain rfl : r = -1 := by have := HS.out; omega
      rw [if_neg h1, ens_len] at HQ
      clear HS h1
      by_cases h2 : size ≤ l.length
      · have f1 : ((l.length : Int) ≥ size) = True := by simp; omega
        rw [if_pos h2] at HQ
        go_wp2
        exact HQ.out _ [] _ rfl (Cp.none B2.out)
      · have f1 : ((l.length : Int) ≥ size) = False := by simp; omega
        have f2 : (size ≤ (l.length : Int)) = False := by simp; omega
        rw [if_neg h2] at HQ
        clear h2
        have HE2 := hide (HL.out.below B2.out)
        have HY2 := hide (HY.out.below B2.out)
        have HR2 := hide (two_lists (W := (w2.alloc (.cells #[.slice ma ms.length mc, .int .i64 prio, .string act, .slice aa args.length ac] 30)).alloc (.cells #[.slice a l.length cap, .slice (some ⟨w2.heap.size, 0, none⟩) 1 1] 26)) (a := a) (cap := cap) (l := l) (y := ⟨⟨ms, prio, act, args⟩, ma, mc, aa, ac⟩) (c := w2.heap.size) (p := w2.heap.size + 1) (HE2.out.below (below2 _ _ _)) (HY2.out.below (below2 _ _ _)) (heap_past _ (heap_alloc_new _ _)) (heap_snd _ _ _ _))
        have HCC := hide (copied_any (w2.heap.size + 1) 2 _ _ HR2.out (by simp) (by have := HN.out; simp [allE, ens_len]; omega))
        simp only [List.length_cons, List.length_nil] at HCC
        go_wp2_with fail
        refine HCC.out.mono ?_
        rintro e w3 ⟨v, acc, rfl, hacc, hcp⟩
        have HAC := hide hacc
        have HCP := hide (hcp.from (bstep B2.out (below2 _ _ _)))
        clear hacc hcp
        go_wp2
        exact HQ.out _ acc _ (by rw [HAC.out]; simp [allE, ens]) HCP.out
end Go.Proofs.Ythkhdmdllhbfeaa
