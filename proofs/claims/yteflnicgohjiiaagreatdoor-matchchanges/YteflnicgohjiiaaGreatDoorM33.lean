/- Pieces of the proof: TwX, TwE. -/
import Derived.Test.YteflnicgohjiiaaGreatDoorM32
import Derived.Test.YteflnicgohjiiaaGreatDoorM9
import Derived.Test.YteflnicgohjiiaaGreatDoorM8
import Derived.Test.YteflnicgohjiiaaGreatDoorM20
import Derived.Test.YteflnicgohjiiaaGreatDoorM3
import Derived.Deep.RegionHeld3
/- TwinMatches, LeftMatches, with rows of one's own handed on (cut out of MkF). -/
namespace Go.Proofs.YteflnicgohjiiaaGreatDoor
open Go.RowKit

theorem info_dX : (Tryz.prog.info? 105).map (fun i => (i.zero, i.size, i.bytes)) = some (some (.agg #[.int .i64 0, .int .u64 0, .int .u64 0, .int .i64 0, .int .u64 0, .int .u64 0, .int .i64 0]), 7, 56) := by kernel_rfl
set_option maxRecDepth 100000 in
set_option maxHeartbeats 4000000 in
theorem twinX_any (a : Option Addr) (cap : Nat) (L : List Mx) (w : World) (hl : L.length ≤ 1000000) (hr : RdX w a L) :
    Calls Tryz.prog 27 #[.slice a L.length cap] w fun e w' => ∃ g c, e = .returned (.slice (some ⟨g, 0, none⟩) L.length c) ∧ RdX w' (some ⟨g, 0, none⟩) (L ++ [(⟨⟨0, 0, 0⟩, ⟨0, 0, 0⟩, 77⟩ : Mx)]) ∧ L.length + 1 ≤ c ∧ c ≤ maxLen ∧ (w.heap.size ≤ g ∧ g < w'.heap.size) ∧ Below w.heap.size w w' ∧ w'.ownsRow w.heap.size 105 7 (.slice (some ⟨g, 0, none⟩) L.length c) L.length (flat Mx.cells L) := by
  have HR := hide hr
  obtain ⟨i0, hi0, hz0, hz1, hz2⟩ := info_parts info_dX
  clear hr
  go_enter Tryz.func27, Tryz.ntmps27
  go_wp2_with (first
    | (refine wpList_make_own _ rfl _ _ 27 rfl w.heap.size 105 i0 (.agg #[.int .i64 0, .int .u64 0, .int .u64 0, .int .i64 0, .int .u64 0, .int .u64 0, .int .i64 0]) 7 Tryz.underlying27 hi0 hz0 hz1 .i64 .i64 _ (L.length + 1) rfl rfl (by simp) (by rw [hz2]; omega) (by unfold maxLen; omega) (Nat.le_refl _) ?_; intro w1 O1 G1; have OO1 : Hid (w1.ownsRow w.heap.size 105 7 (.slice (some ⟨w.heap.size, 0, none⟩) 0 (L.length + 1)) 0 (flat Mx.cells [])) := O1; have B1 := hide ((Below.refl _ w).grown G1 (Nat.le_refl _) (fun k e => by cases e)); clear O1 G1))
  go_loopw [3, 4] (fun t i wr => ∃ (k : Nat) (v : Value), k ≤ L.length ∧ i = .int .i64 k ∧ t = v ∧ wr.ownsRow w.heap.size 105 7 v k (flat Mx.cells (L.take k)) ∧ Below w.heap.size w wr) (fun _ i _ => L.length - (intOf i).toNat)
  case atStart => exact ⟨0, _, by omega, rfl, rfl, OO1.out, B1.out⟩
  case round =>
    obtain ⟨k, v, hk, rfl, rfl, ho, hb⟩ := hrel
    have OO := hide ho; have BB := hide hb
    clear ho hb OO1 B1
    by_cases hlt : k < L.length
    · have R1 := HR.out.below BB.out
      obtain ⟨b, off, rfl, _, hc⟩ := R1.some (by omega)
      obtain ⟨c0, c1, c2, c3, c4, c5, c6⟩ := hc k hlt
      have hkI : (k : Int) < (L.length : Int) := by omega
      have HT := hide (List.take_succ_eq_append_getElem hlt)
      clear hc R1 HR
      generalize L[k] = x at *
      obtain ⟨⟨n, h, l⟩, ⟨n2, h2, l2⟩, d⟩ := x
      dsimp only at c0 c1 c2 c3 c4 c5 c6
      go_wp2_with (first
        | (at_builtin; refine wpList_append_own_at _ rfl _ _ 27 rfl w.heap.size 105 i0 (.agg #[.int .i64 0, .int .u64 0, .int .u64 0, .int .i64 0, .int .u64 0, .int .u64 0, .int .i64 0]) 7 56 Tryz.underlying27 hi0 hz0 hz1 hz2 rfl (by decide) _ k (flat Mx.cells (L.take k)) rfl (own_allocD OO.out _) ⟨wr.heap.size, 0, none⟩ 1 1 [.int .i64 n, .int .u64 h, .int .u64 l, .int .i64 n2, .int .u64 h2, .int .u64 l2, .int .i64 d] rfl rfl (cells_newD _ _ _) (by simp [Value.oneCell']) (by unfold maxLen; omega) (by omega) (by have := BB.out.size; simp; omega) ?_; intro v7 w7 O7 G7 _ K7; have OO7 : Hid (w7.ownsRow w.heap.size 105 7 v7 (k + 1) (flat Mx.cells (L.take (k + 1)))) := by { show World.ownsRow _ _ _ _ _ _ _; rw [HT.out, flat_append]; exact O7 }; have B7 := hide (below_ownD (BB.out.alloc BB.out.size _) (own_allocD OO.out _) G7 (by have := BB.out.size; simp; omega)); clear O7 G7 K7))
      go_roundw
      case rel => exact ⟨k + 1, v7, by omega, by go_num, rfl, OO7.out, B7.out⟩
      case measure => simp [intOf]; omega
    · obtain rfl : k = L.length := by omega
      rw [List.take_length] at OO
      go_wp2_with (at_builtin; (refine wpList_append_own_at _ rfl _ _ 27 rfl w.heap.size 105 i0 (.agg #[.int .i64 0, .int .u64 0, .int .u64 0, .int .i64 0, .int .u64 0, .int .u64 0, .int .i64 0]) 7 56 Tryz.underlying27 hi0 hz0 hz1 hz2 rfl (by decide) _ L.length (flat Mx.cells L) rfl (own_allocD OO.out _) ⟨wr.heap.size, 0, none⟩ 1 1 [.int .i64 0, .int .u64 0, .int .u64 0, .int .i64 0, .int .u64 0, .int .u64 0, .int .i64 77] rfl rfl (cells_newD _ _ _) (by simp [Value.oneCell']) (by unfold maxLen; omega) (by omega) (by have := BB.out.size; simp; omega) ?_; intro v7 w7 O7 G7 _ K7; have O8 : w7.ownsRow w.heap.size 105 7 v7 (L.length + 1) (flat Mx.cells (L ++ [(⟨⟨0, 0, 0⟩, ⟨0, 0, 0⟩, 77⟩ : Mx)])) := by { rw [flat_append]; exact O7 }; have B7 := hide (below_ownD (BB.out.alloc BB.out.size _) (own_allocD OO.out _) G7 (by have := BB.out.size; simp; omega)); obtain ⟨g, c, rfl, hgc, hgB, hgl, hcm⟩ := own_someD O8 (by omega); have OO7 := hide O8; clear O7 O8 G7 K7))
      go_ret
      exact ⟨g, c, rfl, (rdX_own OO7.out).2.1, hgc, hcm, ⟨hgB, hgl⟩, B7.out, own_cut (m := 1) (by have := OO7.out; rw [flat_append] at this; exact this) (flat_length mx_len L)⟩
theorem rdX_block {W W' : World} {g : Nat} {L : List Mx} (h : RdX W (some ⟨g, 0, none⟩) L) (hb : W'.heap[g]? = W.heap[g]?) (hg : g < W'.heap.size) : RdX W' (some ⟨g, 0, none⟩) L := by
  rcases h with h | ⟨p, off, e, hp, hc⟩
  · exact .inl h
  · cases e
    have key : ∀ o v, W.cell? ⟨g, o, none⟩ = some v → W'.cell? ⟨g, o, none⟩ = some v := fun o v hv => (World.cell?_of_block (w := W) (a := ⟨g, o, none⟩) hb).trans hv
    refine .inr ⟨g, 0, rfl, hg, fun i hi => ?_⟩
    obtain ⟨h0, h1, h2, h3, h4, h5, h6⟩ := hc i hi
    exact ⟨key _ _ h0, key _ _ h1, key _ _ h2, key _ _ h3, key _ _ h4, key _ _ h5, key _ _ h6⟩
theorem rdX_take {W : World} {a : Option Addr} {L M : List Mx} (h : RdX W a (L ++ M)) : RdX W a L := by
  rcases h with h | ⟨p, off, rfl, hp, hc⟩
  · exact .inl (List.append_eq_nil_iff.1 h).1
  · refine .inr ⟨p, off, rfl, hp, fun i hi => ?_⟩
    have := hc i (by simp; omega)
    rw [List.getElem_append_left hi] at this
    exact this
set_option maxRecDepth 100000 in
set_option maxHeartbeats 4000000 in
theorem leftX_yes (g c : Nat) (a : Option Addr) (cap : Nat) (L : List Mx) (w : World) (hl : L.length ≤ 1000000) (hr : RdX w a L) (hc : L.length + 1 ≤ c) (hcm : c ≤ 9223372036854775807) (ho : RdX w (some ⟨g, 0, none⟩) (L ++ [(⟨⟨0, 0, 0⟩, ⟨0, 0, 0⟩, 77⟩ : Mx)])) :
    Calls Tryz.prog 36 #[.slice (some ⟨g, 0, none⟩) L.length c, .slice a L.length cap] w fun e w' => e = .returned (.bool true) ∧ Below w.heap.size w w' := by
  have HC := hide (rdX_take ho)
  have HR := hide hr
  have hcI : decide ((c : Int) ≤ (L.length : Int)) = false := by simp; omega
  have HO := hide ho
  have hlI : (L.length : Int) + 1 ≤ (c : Int) := by omega
  clear hr ho
  go_enter Tryz.func36, Tryz.ntmps36
  go_wp2
  go_loopw [5] (fun i wr => ∃ k : Nat, k ≤ L.length ∧ i = .int .i64 k ∧ Below w.heap.size w wr) (fun i _ => L.length - (intOf i).toNat)
  case atStart => exact ⟨0, by omega, rfl, Below.refl _ _⟩
  case round =>
    obtain ⟨k, hk, rfl, hnx⟩ := hrel
    have HN := hide hnx
    by_cases hlt : k < L.length
    · obtain ⟨p, off, rfl, _, hcl⟩ := (HR.out.below hnx).some (by omega)
      obtain ⟨g', o', eg, _, hcw⟩ := (HC.out.below hnx).some (by omega)
      cases eg
      obtain ⟨h0, h1, h2, h3, h4, h5, h6⟩ := hcw k hlt
      obtain ⟨k0, k1, k2, k3, k4, k5, k6⟩ := hcl k hlt
      rw [Nat.zero_add] at h0 h1 h2 h3 h4 h5 h6
      have hkI : (k : Int) < (L.length : Int) := by omega
      clear hcl hcw HR HC HO hnx
      generalize L[k].v.w = x0 at *
      generalize L[k].v.hi = x1 at *
      generalize L[k].v.lo = x2 at *
      generalize L[k].m.w = x3 at *
      generalize L[k].m.hi = x4 at *
      generalize L[k].m.lo = x5 at *
      generalize L[k].len = x6 at *
      go_wp2
      go_region
      all_goals
        go_wp2
        go_roundw
        case rel => exact ⟨k + 1, by omega, by go_num, HN.out.drew⟩
        case measure => simp [intOf]; omega
    · obtain rfl : k = L.length := by omega
      obtain ⟨g', o', eg, _, hcw⟩ := (HO.out.below hnx).some (by simp)
      cases eg
      have hlast := hcw L.length (by simp)
      rw [List.getElem_append_right (Nat.le_refl _)] at hlast
      simp only [Nat.sub_self, List.getElem_singleton, Nat.zero_add] at hlast
      obtain ⟨t0, t1, t2, t3, t4, t5, t6⟩ := hlast
      clear HR HC HO hnx hcw
      go_wp2
      go_ret
      exact ⟨rfl, HN.out.alloc HN.out.size _⟩

end Go.Proofs.YteflnicgohjiiaaGreatDoor
/- TwinEntry, LeftEntry, with rows of one's own handed on (cut out of MkF). -/
namespace Go.Proofs.YteflnicgohjiiaaGreatDoor
open Go.RowKit

def spX : Mx := ⟨⟨0, 0, 0⟩, ⟨0, 0, 0⟩, 77⟩
def spN : Nb := ⟨77, 0, 0⟩
theorem own_openQ {W : World} {B e c g n cap : Nat} {xs : List Value} (h : W.ownsRow B e c (.slice (some ⟨g, 0, none⟩) n cap) n xs) : B ≤ g ∧ ∃ cur : Array Value, W.heap[g]? = some (.cells cur e (0, 0)) ∧ n ≤ cap ∧ cap ≤ maxLen ∧ cur.size = cap * c ∧ cur.toList.take (n * c) = xs := by
  rcases h.2 with ⟨h1, _⟩ | ⟨g', cap', cur, h1, h2, h3, h4, h5, h6, h7⟩
  · cases h1
  · injection h1 with e1 e2 e3
    injection e1 with e1
    injection e1 with e1
    subst e1 e3
    exact ⟨h2, cur, h3, h4, h5, h6, h7⟩
theorem own_blk {W W' : World} {B e c g n cap : Nat} {xs : List Value} (h : W.ownsRow B e c (.slice (some ⟨g, 0, none⟩) n cap) n xs) (hb : W'.heap[g]? = W.heap[g]?) : W'.ownsRow B e c (.slice (some ⟨g, 0, none⟩) n cap) n xs := by
  obtain ⟨h1, cur, h2, h3, h4, h5, h6⟩ := own_openQ h
  exact ⟨h.1, .inr ⟨g, cap, cur, rfl, h1, hb.trans h2, h3, h4, h5, h6⟩⟩
/- A twin of an entry, as it lies: memory of its own, a spare element behind each list. -/
structure TwQ (W : World) (B : Nat) (y z : EnL) : Prop where
  e : z.e = y.e
  ms : ∃ g, z.ma = some ⟨g, 0, none⟩ ∧ RdX W (some ⟨g, 0, none⟩) (y.e.ms ++ [spX]) ∧ W.ownsRow B 105 7 (.slice (some ⟨g, 0, none⟩) y.e.ms.length z.mc) y.e.ms.length (flat Mx.cells y.e.ms)
  args : ∃ g, z.aa = some ⟨g, 0, none⟩ ∧ RdN W (some ⟨g, 0, none⟩) (y.e.args ++ [spN]) ∧ W.ownsRow B 86 3 (.slice (some ⟨g, 0, none⟩) y.e.args.length z.ac) y.e.args.length (flat Nb.cells y.e.args)
  mc : y.e.ms.length + 1 ≤ z.mc ∧ z.mc ≤ maxLen
  ac : y.e.args.length + 1 ≤ z.ac ∧ z.ac ≤ maxLen
theorem TwQ.below {W W' : World} {B : Nat} {y z : EnL} (h : TwQ W B y z) (hb : Below W.heap.size W W') : TwQ W' B y z := by
  obtain ⟨g, e1, h1, k1⟩ := h.ms
  obtain ⟨g2, e2, h2, k2⟩ := h.args
  exact ⟨h.e, ⟨g, e1, h1.below hb, owR_below k1 hb⟩, ⟨g2, e2, h2.below hb, owR_below k2 hb⟩, h.mc, h.ac⟩
theorem TwQ.en {W : World} {B : Nat} {y z : EnL} (h : TwQ W B y z) (hy : EnR W y) : EnR W z := by
  obtain ⟨ze, ma, mc, aa, ac⟩ := z
  obtain ⟨e, ⟨g, e1, h1, _⟩, ⟨g2, e2, h2, _⟩, _, _⟩ := h
  simp only at *
  subst e e1 e2
  exact ⟨rdX_take h1, rdN_take h2, hy.mn, hy.an, hy.mr, hy.ar, hy.pr, fun e => (by cases e), fun e => (by cases e)⟩
theorem cel_of {w : World} {b : Nat} {A : Array Value} {e : TypeId} (h : w.heap[b]? = some (.cells A e (0, 0))) (j : Nat) {u : Value} (hu : A[j]? = some u) : w.cell? ⟨b, j, none⟩ = some u := by unfold World.cell?; simp only [h]; exact hu
theorem setAll_size (b : Nat) : ∀ (cs : List Value) (W : World) (o : Nat), (setAll b W o cs).heap.size = W.heap.size
  | [], _, _ => rfl
  | x :: xs, W, o => (setAll_size b xs (W.setCell ⟨b, o, none⟩ x) (o + 1)).trans (by simp [World.setCell])
/- While one is laid anew: what was handed in, and where the answer will lie. -/
def TwX (W : World) (T K : Nat) (A : Array Value) (w' : World) : Prop := Below W.heap.size W w' ∧ w'.heap[W.heap.size]? = some (.cells A T (0, 0)) ∧ (∃ cur : Array Value, w'.heap[W.heap.size + 1]? = some (.cells cur T (0, 0)) ∧ cur.size = K) ∧ W.heap.size + 2 ≤ w'.heap.size
theorem TwX.start {W : World} {T K : Nat} {A Z : Array Value} (hz : Z.size = K) : TwX W T K A ((W.alloc (.cells A T)).alloc (.cells Z T)).drew := by
  refine ⟨(below2 W _ _).drew, ?_, ⟨Z, ?_, hz⟩, by show _ ≤ ((W.alloc _).alloc _).heap.size; simp⟩
  · exact (Below.heap_alloc (W.alloc (.cells A T)) _ _ (by simp)).trans (heap_alloc_new W _)
  · have h := heap_alloc_new (W.alloc (.cells A T)) (.cells Z T)
    rw [World.size_alloc] at h
    exact h
theorem TwX.next {W : World} {T K : Nat} {A : Array Value} {w w' : World} (h : TwX W T K A w) (hb : Below w.heap.size w w') : TwX W T K A w' := by
  obtain ⟨h1, h2, ⟨cur, h3, h4⟩, h5⟩ := h
  exact ⟨h1.trans (hb.mono h1.size), (hb.block _ (by omega)).trans h2, ⟨cur, (hb.block _ (by omega)).trans h3, h4⟩, Nat.le_trans h5 hb.size⟩
theorem TwX.store {W : World} {T K : Nat} {A : Array Value} {w w' : World} {cs : List Value} (h : TwX W T K A w) (hl : cs.length = K) (e : w' = setAll (W.heap.size + 1) w 0 cs) : TwX W T K A w' ∧ w'.heap[W.heap.size + 1]? = some (.cells cs.toArray T (0, 0)) ∧ w'.heap.size = w.heap.size ∧ ∀ b, b < w.heap.size → b ≠ W.heap.size + 1 → w'.heap[b]? = w.heap[b]? := by
  obtain ⟨h1, h2, ⟨cur, h3, h4⟩, h5⟩ := h
  have F := fr_all (W.heap.size + 1) cs w 0
  rw [← e] at F
  have g := got0 h3 (h4.trans hl.symm)
  rw [← e] at g
  have hs : w'.heap.size = w.heap.size := by rw [e]; exact setAll_size _ _ _ _
  have hne : ∀ b, b < w.heap.size → b ≠ W.heap.size + 1 → w'.heap[b]? = w.heap[b]? := fun b hb hn => F.block b hb hn
  have hw := h1.size
  refine ⟨⟨⟨F.os.trans h1.os, F.tape.trans h1.tape, F.output.trans h1.output, by omega, fun b hb => (hne b (by omega) (by omega)).trans (h1.block b hb)⟩, (hne _ (by omega) (by omega)).trans h2, ⟨_, g, by simpa using hl⟩, by omega⟩, g, hs, hne⟩
set_option maxRecDepth 100000 in
theorem sz_entry : ∀ w : World, (sizeOf 30).run Tryz.prog w = .ok 4 w := fun w => by rfl
set_option maxRecDepth 100000 in
theorem ag_entry : ∀ w : World, (isAgg 30).run Tryz.prog w = .ok true w := fun w => by rfl
set_option maxRecDepth 100000 in
set_option maxHeartbeats 8000000 in
theorem twinEnQ_any (y : EnL) (W : World) (hy : EnR W y) : Calls Tryz.prog 7 #[y.val] W fun e w' => ∃ z : EnL, e = .returned z.val ∧ TwQ w' W.heap.size y z ∧ Below W.heap.size W w' := by
  have HC0 : Hid (∀ W', Below W.heap.size W W' → _) := fun W' hb => twinX_any y.ma y.mc y.e.ms W' hy.mn (hy.ms.below hb)
  have HC3 : Hid (∀ W', Below W.heap.size W W' → _) := fun W' hb => twinN_any y.aa y.ac y.e.args W' hy.an (hy.args.below hb)
  clear hy
  obtain ⟨⟨ms, prio, act, args⟩, ma, mc, aa, ac⟩ := y
  simp only [EnL.val] at *
  go_enter Tryz.func7, Tryz.ntmps7
  go_wp2
  have hS0 : TwX W 30 4 #[.slice ma ms.length mc, .int .i64 prio, .string act, .slice aa args.length ac] ((W.alloc (.cells #[.slice ma ms.length mc, .int .i64 prio, .string act, .slice aa args.length ac] 30)).alloc (.cells #[.slice none 0 0, .int .i64 0, .string ⟨#[]⟩, .slice none 0 0] 30)).drew := TwX.start rfl
  generalize (W.alloc (.cells #[.slice ma ms.length mc, .int .i64 prio, .string act, .slice aa args.length ac] 30)).alloc (.cells #[.slice none 0 0, .int .i64 0, .string ⟨#[]⟩, .slice none 0 0] 30) = w1 at *
  refine wp_region_noPanic ?_
  refine wp_region_held_drew (S := TwX W 30 4 #[.slice ma ms.length mc, .int .i64 prio, .string act, .slice aa args.length ac]) (by kernel_rfl) hS0 (fun hHeld => ?_)
  clear hS0
  generalize w1.drew = w2 at *
  refine wpAnyH_take (i := 0) (v := ?_) rfl (by kernel_rfl) (by kernel_rfl) (by kernel_rfl) (fun _ _ _ h => h) (Or.inl ⟨by rfl, ?_⟩) hHeld ?_
  rotate_left
  · (intro w hSw; clear hSw; go_simp; try (with_reducible rfl))
  refine wpAnyH_take (i := 1) (v := ?_) rfl (by kernel_rfl) (by kernel_rfl) (by kernel_rfl) (fun _ _ _ h => h) (Or.inl ⟨by rfl, ?_⟩) hHeld ?_
  rotate_left
  · (intro w hSw; have hc0 := cel_of hSw.2.1 0 rfl; clear hSw; go_simp; try (with_reducible rfl))
  refine wpAnyH_take (i := 3) (v := ?_) rfl (by kernel_rfl) (by kernel_rfl) (by kernel_rfl) (fun _ _ _ h => h) (Or.inl ⟨by rfl, ?_⟩) hHeld ?_
  rotate_left
  · (intro w hSw; clear hSw; go_simp; try (with_reducible rfl))
  refine wpAnyH_take (i := 4) (v := ?_) rfl (by kernel_rfl) (by kernel_rfl) (by kernel_rfl) (fun _ _ _ h => h) (Or.inl ⟨by rfl, ?_⟩) hHeld ?_
  rotate_left
  · (intro w hSw; have hc1 := cel_of hSw.2.1 1 rfl; clear hSw; go_simp; try (with_reducible rfl))
  refine wpAnyH_take (i := 5) (v := ?_) rfl (by kernel_rfl) (by kernel_rfl) (by kernel_rfl) (fun _ _ _ h => h) (Or.inl ⟨by rfl, ?_⟩) hHeld ?_
  rotate_left
  · (intro w hSw; clear hSw; go_simp; try (with_reducible rfl))
  refine wpAnyH_take (i := 6) (v := ?_) rfl (by kernel_rfl) (by kernel_rfl) (by kernel_rfl) (fun _ _ _ h => h) (Or.inl ⟨by rfl, ?_⟩) hHeld ?_
  rotate_left
  · (intro w hSw; have hc2 := cel_of hSw.2.1 2 rfl; clear hSw; go_simp; try (with_reducible rfl))
  refine wpAnyH_take (i := 7) (v := ?_) rfl (by kernel_rfl) (by kernel_rfl) (by kernel_rfl) (fun _ _ _ h => h) (Or.inl ⟨by rfl, ?_⟩) hHeld ?_
  rotate_left
  · (intro w hSw; clear hSw; go_simp; try (with_reducible rfl))
  refine wpAnyH_take (i := 8) (v := ?_) rfl (by kernel_rfl) (by kernel_rfl) (by kernel_rfl) (fun _ _ _ h => h) (Or.inl ⟨by rfl, ?_⟩) hHeld ?_
  rotate_left
  · (intro w hSw; have hc3 := cel_of hSw.2.1 3 rfl; clear hSw; go_simp; try (with_reducible rfl))
  refine wpAnyH_ready (rs := [2]) (by kernel_rfl) (by simp) ?_
  refine AllReadyH.cons rfl (fun K hK => ?_) AllReadyH.nil
  go_simp
  refine (HC0.out _ hHeld.1).mono ?_
  rintro e y0 ⟨g0, d0, rfl, r0, m0, x0, f0, b0, k0⟩
  have r0' := hide r0; have b0' := hide b0; have z0 := hide hHeld.2.2.2; have f0' := hide f0; have m0' := hide (And.intro m0 x0); have k0' := hide k0
  replace hHeld := hHeld.next b0
  clear r0 b0 f0 m0 x0 k0
  go_wp2_with fail
  refine hK.out _ _ hHeld (fun _ => ?_)
  clear hK K
  refine wpAnyH_ready (rs := [9]) (by kernel_rfl) (by simp) ?_
  refine AllReadyH.cons rfl (fun K hK => ?_) AllReadyH.nil
  go_simp
  refine (HC3.out _ hHeld.1).mono ?_
  rintro e y3 ⟨g3, d3, rfl, r3, m3, x3, f3, b3, k3⟩
  have r3' := hide r3; have b3' := hide b3; have z3 := hide hHeld.2.2.2; have f3' := hide f3; have m3' := hide (And.intro m3 x3); have k3' := hide k3
  replace hHeld := hHeld.next b3
  clear r3 b3 f3 m3 x3 k3
  go_wp2_with fail
  refine hK.out _ _ hHeld (fun _ => ?_)
  clear hK K
  refine wpAnyH_take (i := 10) (v := ?_) rfl (by kernel_rfl) (by kernel_rfl) (by kernel_rfl) (fun _ _ _ h => h) (Or.inl ⟨by rfl, ?_⟩) hHeld ?_
  rotate_left
  · (intro w hSw; clear hSw; go_simp; try (with_reducible rfl))
  obtain ⟨cur, hcur, hcs⟩ := hHeld.2.2.1
  refine wpAnyH_ready (rs := [11]) (by kernel_rfl) (by simp) ?_
  refine AllReadyH.cons rfl (fun K hK => ?_) AllReadyH.nil
  refine step_storeA rfl 30 _ _ rfl (W.heap.size + 1) [.slice (some ⟨g0, 0, none⟩) ms.length d0, .int .i64 prio, .string act, .slice (some ⟨g3, 0, none⟩) args.length d3] cur 30 rfl rfl (fun w => by rfl) hcur hcs (by simp [Value.oneCell']) ?_
  intro w9 hw9
  have h9 := hHeld.store (cs := [.slice (some ⟨g0, 0, none⟩) ms.length d0, .int .i64 prio, .string act, .slice (some ⟨g3, 0, none⟩) args.length d3]) rfl hw9
  refine hK.out _ _ h9.1 (fun _ => ?_)
  clear hK K
  refine wpAnyH_done (by kernel_rfl) ?_ _
  refine NoPanic.normal ?_
  have H1 := hide h9.1.1; have H2 := hide h9.2.1; have H3 := hide h9.2.2.1; have H4 := hide h9.2.2.2
  have s3 := b3'.out.size
  have n0 := H4.out g0 (by have := f0'.out.2; omega) (by have := f0'.out.1; have := z0.out; omega)
  have n3 := H4.out g3 f3'.out.2 (by have := f3'.out.1; have := z3.out; omega)
  have T1 : Hid (RdX w9 (some ⟨g0, 0, none⟩) (ms ++ [spX])) := rdX_block (r0'.out.below b3'.out) n0 (by rw [H3.out]; have := f0'.out.2; omega)
  have T2 : Hid (RdN w9 (some ⟨g3, 0, none⟩) (args ++ [spN])) := rdN_block r3'.out n3 (by rw [H3.out]; exact f3'.out.2)
  have U1 := hide (owR_lower (B' := W.heap.size) (own_blk (owR_below k0'.out b3'.out) n0) (by have := z0.out; omega))
  have U2 := hide (owR_lower (B' := W.heap.size) (own_blk k3'.out n3) (by have := z3.out; omega))
  clear hw9 h9 hHeld hcur hcs s3 n0 n3
  go_wp2
  exact bodyPost_ret (res_cell (cs := [.slice (some ⟨g0, 0, none⟩) ms.length d0, .int .i64 prio, .string act, .slice (some ⟨g3, 0, none⟩) args.length d3]) (e := 30) Tryz.results7 rfl ag_entry sz_entry H2.out) rfl ⟨⟨⟨ms, prio, act, args⟩, some ⟨g0, 0, none⟩, d0, some ⟨g3, 0, none⟩, d3⟩, rfl, ⟨rfl, ⟨g0, rfl, T1.out, U1.out⟩, ⟨g3, rfl, T2.out, U2.out⟩, m0'.out, m3'.out⟩, H1.out⟩
set_option maxRecDepth 100000 in
set_option maxHeartbeats 8000000 in
theorem leftEnQ_yes (y z : EnL) (w : World) (hy : EnR w y) {B : Nat} (h : TwQ w B y z) : Calls Tryz.prog 17 #[z.val, y.val] w fun e w' => e = .returned (.bool true) ∧ Below w.heap.size w w' := by
  obtain ⟨ze, ma, mc, aa, ac⟩ := z
  obtain ⟨⟨ms, prio, act, args⟩, ma2, mc2, aa2, ac2⟩ := y
  obtain ⟨e, ⟨g, e1, h1, _⟩, ⟨g2, e2, h2, _⟩, ⟨m1, m2⟩, ⟨a1, a2⟩⟩ := h
  simp only at *
  subst e e1 e2
  have HX : Hid (∀ W, Below w.heap.size w W → _) := fun W hb => leftX_yes g mc ma2 mc2 ms W hy.mn (hy.ms.below hb) m1 (by unfold maxLen at m2; omega) (h1.below hb)
  have HN : Hid (∀ W, Below w.heap.size w W → _) := fun W hb => leftN_yes g2 ac aa2 ac2 args W hy.an (hy.args.below hb) a1 (by unfold maxLen at a2; omega) (h2.below hb)
  clear hy h1 h2 m1 m2 a1 a2
  simp only [EnL.val] at *
  generalize ms.length = n1 at *
  generalize args.length = n2 at *
  go_enter Tryz.func17, Tryz.ntmps17
  go_wp2_with fail
  refine (HX.out _ (below2 _ _ _)).mono ?_
  rintro e w1 ⟨rfl, hb⟩
  obtain ⟨p0, p1, p2, p3, -⟩ := at4 (heap_below hb (heap_past _ (heap_alloc_new w _)))
  obtain ⟨q0, q1, q2, q3, -⟩ := at4 (heap_below hb (heap_snd w _ _ _))
  have BB := hide (bstep (below2 _ _ _) hb)
  clear hb
  go_wp2_with fail
  refine (HN.out _ BB.out).mono ?_
  rintro e w2 ⟨rfl, hb⟩
  go_wp2
  go_ret
  exact ⟨rfl, bstep BB.out hb⟩
end Go.Proofs.YteflnicgohjiiaaGreatDoor
