/- Pieces of the proof: XU, XV, XLe, XQ, XR, XS. -/
import Derived.Test.YthlfbpadakoamaaM9
/- package wire: an update, as it is told. -/
namespace Go.Proofs.Ythlfbpadakoamaa
open Go.RowKit Go.MapKept

def updKT (k : Nat) (x : UpdA) (t : List Nat) : Prop := ((k = 1 ∨ k = 2 ∨ k = 3) ∧ ChangeT x t) ∨ (k = 4 ∧ OtherT x t) ∨ (k = 5 ∧ GroupT x t)
def UpdT (x : UpdA) (t : List Nat) : Prop := ∃ (k : Nat) (t' : List Nat), x.kind = (k : Int) ∧ t = k :: t' ∧ updKT k x t'
theorem UKind.mono {G : Nat} {K K' : UpdA → List Nat → Prop} (h : UKind G K) (hk : ∀ x t, K' x t → K x t) : UKind G K' := fun B W p s v bs t x kv va vb vp a b c d e f g i hT hl => h B W p s v bs t x kv va vb vp a b c d e f g i (hk x t hT) hl
def tabV (p : Nat) : List (Int × Spec) := [(1, methT 83 p), (2, methT 83 p), (3, methT 83 p), (4, methT 84 p), (5, methT 85 p)]
theorem entw_change : entP 83 := enters_of Try.func83 (by kernel_rfl) rfl
theorem entw_other : entP 84 := enters_of Try.func84 (by kernel_rfl) rfl
theorem entw_group : entP 85 := enters_of Try.func85 (by kernel_rfl) rfl
set_option maxRecDepth 100000 in
theorem zeroV_fn (W : World) : (zeroValue 133).run Try.prog W = .ok .nilFunc W := rfl
theorem tabV_has {p : Nat} {s : Int × Spec} (hs : s ∈ tabV p) {k : Nat} (hk : s.1 = (k : Int)) : ∃ G, s.2 = methT G p ∧ entP G ∧ UKind G (updKT k) := by
  simp only [tabV, List.mem_cons, List.not_mem_nil, or_false] at hs
  rcases hs with rfl | rfl | rfl | rfl | rfl
  all_goals
    simp only at hk
  · obtain rfl : k = 1 := by omega
    exact ⟨_, rfl, entw_change, wchange_kind.mono (fun x t h => by rcases h with ⟨_, h⟩ | ⟨h, _⟩ | ⟨h, _⟩; exact h; omega; omega)⟩
  · obtain rfl : k = 2 := by omega
    exact ⟨_, rfl, entw_change, wchange_kind.mono (fun x t h => by rcases h with ⟨_, h⟩ | ⟨h, _⟩ | ⟨h, _⟩; exact h; omega; omega)⟩
  · obtain rfl : k = 3 := by omega
    exact ⟨_, rfl, entw_change, wchange_kind.mono (fun x t h => by rcases h with ⟨_, h⟩ | ⟨h, _⟩ | ⟨h, _⟩; exact h; omega; omega)⟩
  · obtain rfl : k = 4 := by omega
    exact ⟨_, rfl, entw_other, wother_kind.mono (fun x t h => by rcases h with ⟨h, _⟩ | ⟨_, h⟩ | ⟨h, _⟩; omega; exact h; omega)⟩
  · obtain rfl : k = 5 := by omega
    exact ⟨_, rfl, entw_group, wgroup_kind.mono (fun x t h => by rcases h with ⟨h, _⟩ | ⟨h, _⟩ | ⟨_, h⟩; omega; omega; exact h)⟩
theorem tabV_in {p k : Nat} {x : UpdA} {t : List Nat} (h : updKT k x t) : ∃ s ∈ tabV p, s.1 = (k : Int) := by
  rcases h with ⟨rfl | rfl | rfl, _⟩ | ⟨rfl, _⟩ | ⟨rfl, _⟩
  · exact ⟨(1, methT 83 p), by simp [tabV], rfl⟩
  · exact ⟨(2, methT 83 p), by simp [tabV], rfl⟩
  · exact ⟨(3, methT 83 p), by simp [tabV], rfl⟩
  · exact ⟨(4, methT 84 p), by simp [tabV], rfl⟩
  · exact ⟨(5, methT 85 p), by simp [tabV], rfl⟩
theorem chosenV (B p k : Nat) (W : World) (h : Tab W B (tabV p)) (hin : ∃ s ∈ tabV p, s.1 = (k : Int)) :
    Calls Try.prog 82 #[.map (some B), .int .u8 k] W fun e W' => ∃ G, e = .returned (.func (Fn.func G) #[.pointer (some ⟨p, 0, none⟩)] #[]) ∧ W' = W ∧ entP G ∧ UKind G (updKT k) := by
  rcases h.look Try.underlying135 Try.underlying101 (zeroV_fn W) (k : Int) with ⟨s, hs, hk, v, hl, hv⟩ | ⟨hn, hl⟩
  · obtain ⟨G, e, h1, h2⟩ := tabV_has hs hk
    rw [e] at hv
    have hv' : v = .func (Fn.func G) #[.pointer (some ⟨p, 0, none⟩)] #[] := hv
    subst hv'
    have H1 := hide h1; have H2 := hide h2
    clear h1 h2 hs hk hv e h hin
    go_enter Try.func82, Try.ntmps82
    go_wp2_with fail
    refine (must_yes _).mono ?_
    rintro e w1 ⟨rfl, rfl⟩
    go_wp2
    go_ret
    exact ⟨G, rfl, rfl, H1.out, H2.out⟩
  · obtain ⟨s, hs, hk⟩ := hin
    exact absurd hk (hn s hs)
end Go.Proofs.Ythlfbpadakoamaa
/- package wire: an update, as it is told: the walk. -/
namespace Go.Proofs.Ythlfbpadakoamaa
open Go.RowKit Go.MapKept

theorem Wr.grown {B : Nat} {W W' : World} {p : Nat} {v : Value} {bs : List Nat} {m : Nat} (h : Wr B W p v bs) (hg : W.grownBy W' (some m)) (hp : m ≠ p) (hv : v.ownBlock ≠ some m) : Wr B W' p v bs :=
  h.fr (Fr.grown hg (fun r e => by injection e with e; exact e.symm)) hp hv
set_option maxHeartbeats 4000000 in
theorem wupd_writes : Writes 65 UpdR UpdT := fun B W p v bs t u x h hr hT hl => by
  have hmf : ∀ (fn : Fn) (first cap : Array Value) (w : World), (Instr.makeFunc fn first cap).run Try.prog w = .ok (.func fn first cap) w := fun _ _ _ _ => rfl
  have hmm := @run_makeMap Try.prog
  obtain ⟨va, vb, vp, rfl, hva, hvb, hvp⟩ := hr
  obtain ⟨ma, mc, rfl⟩ := list_slice hva
  obtain ⟨na, nc, rfl⟩ := list_slice hvb
  obtain ⟨pa, pc, rfl⟩ := list_slice hvp
  obtain ⟨k, t', hk, rfl, hK⟩ := hT
  have hp := h.lt
  have hle := h.le
  have hk5 : k < 256 := by rcases hK with ⟨h | h | h, _⟩ | ⟨h, _⟩ | ⟨h, _⟩ <;> omega
  have hw : IntKind.i64.wrap (k : Int) = k := by rw [IntKind.wrap_i64]; omega
  rw [hk]
  obtain ⟨O, hO⟩ : ∃ O, O = boxU (k : Int) x.table (.slice ma x.entry.ms.length mc) x.entry.prio x.entry.act (.slice na x.entry.args.length nc) x.n (.slice pa x.ports.length pc) := ⟨_, rfl⟩
  have hs0 := heap_alloc_new W O
  have hz0 : (W.alloc O).heap.size = W.heap.size + 1 := by simp
  have HT0 : Hid (Tab ((W.alloc O).alloc (.map #[] 0)) (W.heap.size + 1) []) := hide (by have := Tab.empty (W.alloc O); rw [hz0] at this; exact this)
  have W0 := hide ((h.alloc O).alloc (.map #[] 0))
  have HS0 := hide ((Below.heap_alloc (W.alloc O) (.map #[] 0) _ (by simp)).trans hs0)
  have M0 : Hid (Wm p W v ((W.alloc O).alloc (.map #[] 0)) v) := hide ((Wm.alloc _).trans (Wm.alloc _))
  have BL0 : Hid (Below B W ((W.alloc O).alloc (.map #[] 0))) := hide (((Below.refl _ _).alloc hle _).alloc (by simp; omega) _)
  have HNE : Hid (v.ownBlock ≠ some W.heap.size) := hide (fun e => by have := h.bod _ e; omega)
  have HNE1 : Hid (v.ownBlock ≠ some (W.heap.size + 1)) := hide (fun e => by have := h.bod _ e; omega)
  rw [hO] at HT0 W0 HS0 M0 BL0
  have HS0b := HS0
  unfold boxU at HT0 W0 HS0b M0 BL0
  have HVA := hide hva; have HVB := hide hvb; have HVP := hide hvp; have HK := hide hK; have HL := hide hl; have HPW := hide hp; have HLE := hide hle; have HK5 := hide hk5
  clear h hva hvb hvp hK hl hs0 hz0 hO hp hle hk5 hk
  go_enter Try.func65, Try.ntmps65
  go_wp2_with (first
    | (refine wpList_insert_tab _ rfl _ _ _ 135 rfl _ _ Try.underlying135 Try.underlying101 (W.heap.size + 1) [] rfl 1 rfl _ rfl (methT 83 p) HT0.out steady_nil (methT_steady _ _) (by simp) (methT_at _ _ _) ?_; intro u1 T1 G1; have HT1 := hide T1; have HG1 := hide G1; clear T1 G1)
    | (refine wpList_insert_tab _ rfl _ _ _ 135 rfl _ _ Try.underlying135 Try.underlying101 (W.heap.size + 1) _ rfl 2 rfl _ rfl (methT 83 p) HT1.out (steady_snoc steady_nil (methT_steady _ _)) (methT_steady _ _) (by simp) (methT_at _ _ _) ?_; intro u2 T2 G2; have HT2 := hide T2; have HG2 := hide (HG1.out.trans G2); clear T2 G2)
    | (refine wpList_insert_tab _ rfl _ _ _ 135 rfl _ _ Try.underlying135 Try.underlying101 (W.heap.size + 1) _ rfl 3 rfl _ rfl (methT 83 p) HT2.out (steady_snoc (steady_snoc steady_nil (methT_steady _ _)) (methT_steady _ _)) (methT_steady _ _) (by simp) (methT_at _ _ _) ?_; intro u3 T3 G3; have HT3 := hide T3; have HG3 := hide (HG2.out.trans G3); clear T3 G3)
    | (refine wpList_insert_tab _ rfl _ _ _ 135 rfl _ _ Try.underlying135 Try.underlying101 (W.heap.size + 1) _ rfl 4 rfl _ rfl (methT 84 p) HT3.out (steady_snoc (steady_snoc (steady_snoc steady_nil (methT_steady _ _)) (methT_steady _ _)) (methT_steady _ _)) (methT_steady _ _) (by simp) (methT_at _ _ _) ?_; intro u4 T4 G4; have HT4 := hide T4; have HG4 := hide (HG3.out.trans G4); clear T4 G4)
    | (refine wpList_insert_tab _ rfl _ _ _ 135 rfl _ _ Try.underlying135 Try.underlying101 (W.heap.size + 1) _ rfl 5 rfl _ rfl (methT 85 p) HT4.out (steady_snoc (steady_snoc (steady_snoc (steady_snoc steady_nil (methT_steady _ _)) (methT_steady _ _)) (methT_steady _ _)) (methT_steady _ _)) (methT_steady _ _) (by simp) (methT_at _ _ _) ?_; intro u5 T5 G5; have HT5 : Hid (Tab u5 (W.heap.size + 1) (tabV p)) := T5; have HG5 := hide (HG4.out.trans G5); have HS5 : Hid (u5.heap[W.heap.size]? = some (boxU (k : Int) x.table (.slice ma x.entry.ms.length mc) x.entry.prio x.entry.act (.slice na x.entry.args.length nc) x.n (.slice pa x.ports.length pc))) := hide ((HG5.out.block W.heap.size (by simp; omega) (fun e => by injection e with e; omega)).trans HS0.out); obtain ⟨b0, b1, b2, b3, b4, b5, b6, b7, bf⟩ := box_cells HS5.out; clear T5 G5))
  have hp := HPW.out
  have R5 := hide (W0.out.grown HG5.out (by omega) HNE1.out)
  have M5 : Hid (Wm p W v u5 v) := hide ⟨M0.out.fr.trans (Fr.grown (E := fun b => b = W.heap.size + 1) HG5.out (fun r e => by injection e with e; exact e.symm)) (fun b hb e => by omega), .inl rfl⟩
  have BL5 : Hid (Below B W u5) := hide (BL0.out.trans (Fr.below (Fr.grown (E := fun b => b = W.heap.size + 1) HG5.out (fun r e => by injection e with e; exact e.symm)) (fun b e => by have := HLE.out; omega) W0.out.le))
  clear HT0 HT1 HT2 HT3 HT4 HG1 HG2 HG3 HG4
  refine (chosenV (W.heap.size + 1) p k u5 HT5.out (tabV_in HK.out)).mono ?_
  rintro e w6 ⟨G, rfl, hw6, hG, hUK⟩
  subst hw6
  have HE := hG
  unfold entP at HE
  have HUK := hide hUK
  have H6 := hide (byte_sizes B w6 p v bs [k] k R5.out ⟨HK5.out, rfl⟩ (by have := HL.out; simp at this ⊢; omega))
  clear hG hUK
  go_wp2_with fail
  refine H6.out.mono ?_
  rintro e w7 ⟨v7, rfl, h7, m7⟩
  have hb7 := m7.keep HS5.out (by omega) HNE.out
  have hv7 := m7.far (lt_of_heap HS5.out) HNE.out
  have BL7 := hide (BL5.out.trans (m7.below R5.out R5.out.le))
  have HU := hide (HUK.out B w7 p W.heap.size v7 _ t' x k _ _ _ h7 hb7 (by omega) hv7 HLE.out (rep_below (ListR.ok match_ok _ _) HVA.out BL7.out) (rep_below (ListR.ok bits_ok _ _) HVB.out BL7.out) (rep_below (ListR.ok int_ok _ _) HVP.out BL7.out) HK.out (by have := HL.out; simp at this ⊢; omega))
  have M7 := hide (M5.out.trans m7)
  clear h7 m7 hb7 hv7 b0 b1 b2 b3 b4 b5 b6 b7 bf H6 HUK
  go_wp2_with fail
  refine HU.out.mono ?_
  rintro e w8 ⟨v8, va8, vb8, vp8, rfl, h8, s8, hb8, ⟨a1, c1, rfl⟩, ⟨a2, c2, rfl⟩, ⟨a3, c3, rfl⟩⟩
  obtain ⟨b0, b1, b2, b3, b4, b5, b6, b7, bf⟩ := box_cells hb8
  have W8 := hide h8
  have S8 := hide s8
  clear h8 s8 hb8 HU
  go_wp2_with fail
  refine (must_yes _).mono ?_
  rintro e w9 ⟨rfl, hw9⟩
  subst hw9
  go_wp2_with fail
  refine (must_yes _).mono ?_
  rintro e w9 ⟨rfl, hw9⟩
  subst hw9
  go_wp2_with fail
  refine (must_yes _).mono ?_
  rintro e w9 ⟨rfl, hw9⟩
  subst hw9
  go_wp2
  go_end0
  exact ⟨v8, rfl, by have := W8.out; rw [List.append_assoc, List.singleton_append] at this; exact this, WmS.out M7.out S8.out (Nat.le_refl _)⟩
end Go.Proofs.Ythlfbpadakoamaa
/- package wire: a list that is told. -/
namespace Go.Proofs.Ythlfbpadakoamaa
open Go.RowKit

def BatchT (n : Nat) (t : List Nat) : Prop := n ≤ 64 ∧ t = [n]
theorem batchT_lt {n : Nat} {t : List Nat} (h : BatchT n t) : n < 1000000000000 := by have := h.1; omega
theorem batch_sizes : Sizes 63 BatchT := fun B W p v bs t n h hS hl => by
  obtain ⟨hn, rfl⟩ := hS
  have d1 : ((n : Int) ≤ 64) = True := eq_true (by omega)
  have HB := hide (byte_sizes B W p v bs [n] n h ⟨by omega, rfl⟩ hl)
  clear h hn hl
  go_enter Try.func63, Try.ntmps63
  go_wp2_with fail
  refine (must_yes _).mono ?_
  rintro e w1 ⟨rfl, hw1⟩
  subst hw1
  go_wp2_with fail
  refine HB.out.mono ?_
  rintro e w2 hT
  have H2 := hide hT
  obtain ⟨v1, rfl, _, _⟩ := hT
  go_wp2
  go_end0
  exact H2.out
set_option maxHeartbeats 2000000 in
theorem list_update {B : Nat} {W : World} {p : Nat} {v : Value} {bs sz t : List Nat} (lv : Value) (l : List _) (h : Wr B W p v bs) (hr : ListR UpdR mkAgg 8 W (· < B) lv l) (hS : BatchT l.length sz) (hT : ManyT UpdT l t) (hl : bs.length + (sz ++ t).length ≤ slack) :
    Calls Try.prog 62 #[.func (Fn.func 63) #[.pointer (some ⟨p, 0, none⟩)] #[], lv, .func (Fn.func 65) #[.pointer (some ⟨p, 0, none⟩)] #[]] W fun e W' => Told B p W v bs (sz ++ t) e W' := by
  obtain ⟨la, lc, rfl⟩ := list_slice hr
  obtain ⟨n, hn⟩ : ∃ n, l.length = n := ⟨_, rfl⟩
  have HZ := hide (batch_sizes B W p v bs sz n h (by rw [← hn]; exact hS) (by simp at hl; omega))
  have HLen : Hid (n < 1000000000000) := hide (by rw [← hn]; exact batchT_lt hS)
  have HR := hide hr; have HT := hide hT; have HL := hide hl
  have HW := hide h
  have HN := hide hn
  rw [hn]
  clear h hr hS hT hl hn
  go_enter Try.func62, Try.ntmps62
  go_wp2_with fail
  refine HZ.out.mono ?_
  rintro e w1 ⟨v1, rfl, h1, m1⟩
  have H1 := hide h1; have M1 := hide m1
  clear h1 m1
  go_wp2
  go_loopw [14] (fun i wr => ∃ (k : Nat) (vk : Value) (told rest : List Nat), k ≤ n ∧ i = .int .i64 k ∧ Lt UpdT B W wr p v vk bs sz t l k told rest) (fun i _ => n - (intOf i).toNat)
  case atStart => exact ⟨0, v1, [], t, Nat.zero_le _, rfl, by rw [List.append_nil]; exact H1.out, M1.out, HT.out, rfl⟩
  case round =>
    obtain ⟨k, vk, told, rest, hk, rfl, hL⟩ := hrel
    have hnn := HLen.out
    have L0 := hide hL
    clear hL
    have hBl : Below B W wr := L0.out.wm.below HW.out HW.out.le
    have HRk := hide (rep_below (ListR.ok upd_ok _ _) HR.out hBl)
    clear hBl
    by_cases hlt : k < n
    · have hkl : k < l.length := by rw [HN.out]; exact hlt
      obtain ⟨b, off, cap, cs, he, hX, hcs, hrep, hc⟩ := list_elem HRk.out k hkl
      injection he with he1 he2 he3
      subst he1
      clear he2 he3
      obtain ⟨x, hx⟩ : ∃ x, l[k] = x := ⟨_, rfl⟩
      rw [hx] at hrep
      obtain ⟨ta, tb, hta, htb, hab⟩ := L0.out.item hkl
      rw [hx] at hta
      have HREP0 := hide hrep
      obtain ⟨va, vb, vp, he, hva, hvb, hvp⟩ := hrep
      obtain ⟨ma, mc, rfl⟩ := list_slice hva
      obtain ⟨na, nc, rfl⟩ := list_slice hvb
      obtain ⟨pa, pc, rfl⟩ := list_slice hvp
      obtain rfl := agg_of he
      have HREP := HREP0
      clear he hva hvb hvp HREP0
      have HC := hide hc
      have q0 := HC.out 0 (by simp)
      have q1 := HC.out 1 (by simp)
      have q2 := HC.out 2 (by simp)
      have q3 := HC.out 3 (by simp)
      have q4 := HC.out 4 (by simp)
      have q5 := HC.out 5 (by simp)
      have q6 := HC.out 6 (by simp)
      have q7 := HC.out 7 (by simp)
      simp only [List.getElem_cons_zero, List.getElem_cons_succ, Nat.add_zero] at q0 q1 q2 q3 q4 q5 q6 q7
      simp only [← Nat.add_assoc] at q0 q1 q2 q3 q4 q5 q6 q7
      have HTA := hide hta; have HTB := hide htb; have HAB := hide hab
      have WA := hide (L0.out.wr.alloc (.cells #[.int .u8 x.kind, .string x.table, .slice ma x.entry.ms.length mc, .int .i64 x.entry.prio, .string x.entry.act, .slice na x.entry.args.length nc, .int .i64 x.n, .slice pa x.ports.length pc] 104))
      have HI := hide (wupd_writes B _ p vk _ ta _ _ WA.out (rep_below upd_ok HREP.out ((Below.refl _ _).alloc L0.out.wr.le _)) hta (by have h1 := HL.out; have h2 := L0.out.all; rw [h2, hab] at h1; simp only [List.length_append] at h1 ⊢; omega))
      clear hta htb hab hc hcs HRk HREP HC hx hkl
      go_wp2_with fail
      refine HI.out.mono ?_
      rintro e w3 ⟨v3, rfl, h3, m3⟩
      have L3 := hide (L0.out.step HTB.out HAB.out (Wm.alloc _) h3 m3)
      clear h3 m3
      go_wp2
      go_roundw
      case rel => exact ⟨k + 1, v3, _, _, by omega, by go_num, L3.out⟩
      case measure => simp [intOf]; omega
    · obtain rfl : k = n := by omega
      have HD := hide (L0.out.done (by rw [HN.out]; exact Nat.le_refl _))
      go_wp2
      go_end0
      refine ⟨vk, rfl, ?_, L0.out.wm⟩
      have := L0.out.wr
      rw [HD.out, List.append_assoc] at this
      exact this
end Go.Proofs.Ythlfbpadakoamaa
/- package wire: a request's kinds, as they are told. -/
namespace Go.Proofs.Ythlfbpadakoamaa
open Go.RowKit

def boxQ (kv : Int) (sr tb : ByteArray) (n : Int) (vu : Value) : Obj := .cells #[.int .u8 kv, .string sr, .string tb, .int .i64 n, vu] 27
theorem boxQ_cells {W : World} {s : Nat} {kv n : Int} {sr tb : ByteArray} {vu : Value} (h : W.heap[s]? = some (boxQ kv sr tb n vu)) : W.cell? ⟨s, 0, none⟩ = some (.int .u8 kv) ∧ W.cell? ⟨s, 1, none⟩ = some (.string sr) ∧ W.cell? ⟨s, 2, none⟩ = some (.string tb) ∧ W.cell? ⟨s, 3, none⟩ = some (.int .i64 n) ∧ W.cell? ⟨s, 4, none⟩ = some vu ∧ ∀ o, W.frozen? ⟨s, o, none⟩ = false := cells5 h
def QKind (G : Nat) (KT : ReqA → List Nat → Prop) : Prop :=
  ∀ (B : Nat) (W : World) (p s : Nat) (v : Value) (bs t : List Nat) (x : ReqA) (kv : Int) (vu : Value), Wr B W p v bs → W.heap[s]? = some (boxQ kv x.src x.table x.n vu) → s ≠ p → v.ownBlock ≠ some s → B ≤ s →
    ListR UpdR mkAgg 8 W (· < B) vu x.ups → KT x t → bs.length + t.length ≤ slack →
    Calls Try.prog G #[.pointer (some ⟨p, 0, none⟩), .pointer (some ⟨s, 0, none⟩)] W fun e W' => ∃ v' vu', e = .returned (.tuple #[]) ∧ Wr B W' p v' (bs ++ t) ∧ WmS s p W v W' v' ∧ W'.heap[s]? = some (boxQ kv ⟨#[]⟩ ⟨#[]⟩ 0 vu') ∧ NoneS vu'
def InstallT (x : ReqA) (t : List Nat) : Prop := x.table = ByteArray.empty ∧ x.n = 0 ∧ x.ups = [] ∧ x.src.size ≤ 1000000000 ∧ t = byts x.src
def WriteT (x : ReqA) (t : List Nat) : Prop := x.src = ByteArray.empty ∧ x.table = ByteArray.empty ∧ x.n = 0 ∧ ∃ s b, BatchT x.ups.length s ∧ ManyT UpdT x.ups b ∧ t = s ++ b
def ReadT (x : ReqA) (t : List Nat) : Prop := x.src = ByteArray.empty ∧ x.n = 0 ∧ x.ups = [] ∧ NameT x.table t
def CellsT (x : ReqA) (t : List Nat) : Prop := x.src = ByteArray.empty ∧ x.ups = [] ∧ ∃ a b, NameT x.table a ∧ WholeT x.n b ∧ t = a ++ b
set_option maxHeartbeats 2000000 in
theorem winstall_box {B : Nat} {W : World} {p s : Nat} {v : Value} {bs : List Nat} {kv n : Int} {sr tb : ByteArray} {vu : Value} (h : Wr B W p v bs) (hb : W.heap[s]? = some (boxQ kv sr tb n vu)) (hp : s ≠ p) (hv : v.ownBlock ≠ some s) (hsz : sr.size ≤ 1000000000) (hl : bs.length + sr.size ≤ slack) :
    Calls Try.prog 33 #[.pointer (some ⟨p, 0, none⟩), .pointer (some ⟨s, 0, none⟩)] W fun e W' => ∃ v', e = .returned (.tuple #[]) ∧ Wr B W' p v' (bs ++ byts sr) ∧ WmS s p W v W' v' ∧ W'.heap[s]? = some (boxQ kv ⟨#[]⟩ tb n vu) := by
  obtain ⟨a0, a1, a2, a3, a4, af⟩ := boxQ_cells hb
  have HM := hide (moved_str ⟨s, 1, none⟩ sr W a1 (af 1))
  have F1 : Hid (Fr (· = s) W (W.setCell ⟨s, 1, none⟩ (.string ⟨#[]⟩))) := hide ((Fr.refl _ _).set _ _ rfl)
  have HB1 : Hid ((W.setCell ⟨s, 1, none⟩ (.string ⟨#[]⟩)).heap[s]? = some (boxQ kv ⟨#[]⟩ tb n vu)) := hide (heap_setCell_same hb _)
  have W1 := hide (h.fr F1.out hp hv)
  have H1 := hide (text_any sr W1.out hsz (by unfold slack at hl; omega))
  have HP := hide hp; have HV := hide hv
  clear h hb hp hv hsz hl a0 a1 a2 a3 a4 af
  go_enter Try.func33, Try.ntmps33
  go_wp2_with fail
  refine HM.out.mono ?_
  rintro e w1 ⟨rfl, hw1⟩
  subst hw1
  go_wp2_with fail
  refine H1.out.mono ?_
  rintro e w2 ⟨v2, rfl, h2, m2⟩
  have HB2 := hide (m2.keep HB1.out HP.out HV.out)
  have S2 := hide ((WmS.ofFr (v := v) (p := p) F1.out).trans (WmS.of m2))
  have W2 := hide h2
  clear h2 m2
  go_wp2
  go_end0
  exact ⟨v2, rfl, W2.out, S2.out, HB2.out⟩
theorem winstall_kind : QKind 33 InstallT := fun B W p s v bs t x kv vu h hb hp hv hB hvu hT hl => by
  obtain ⟨h1, h2, h3, h4, rfl⟩ := hT
  rw [h1, h2] at hb
  exact (winstall_box h hb hp hv h4 (by rw [byts_length] at hl; exact hl)).mono (fun e W' ⟨v', k1, k2, k3, k4⟩ => ⟨v', vu, k1, k2, k3, k4, list_zero hvu h3⟩)
set_option maxHeartbeats 2000000 in
theorem wread_box {B : Nat} {W : World} {p s : Nat} {v : Value} {bs t : List Nat} {kv n : Int} {sr tb : ByteArray} {vu : Value} (h : Wr B W p v bs) (hb : W.heap[s]? = some (boxQ kv sr tb n vu)) (hp : s ≠ p) (hv : v.ownBlock ≠ some s) (hT : NameT tb t) (hl : bs.length + t.length ≤ slack) :
    Calls Try.prog 35 #[.pointer (some ⟨p, 0, none⟩), .pointer (some ⟨s, 0, none⟩)] W fun e W' => ∃ v', e = .returned (.tuple #[]) ∧ Wr B W' p v' (bs ++ t) ∧ WmS s p W v W' v' ∧ W'.heap[s]? = some (boxQ kv sr ⟨#[]⟩ n vu) := by
  obtain ⟨a0, a1, a2, a3, a4, af⟩ := boxQ_cells hb
  have HM := hide (moved_str ⟨s, 2, none⟩ tb W a2 (af 2))
  have F1 : Hid (Fr (· = s) W (W.setCell ⟨s, 2, none⟩ (.string ⟨#[]⟩))) := hide ((Fr.refl _ _).set _ _ rfl)
  have HB1 : Hid ((W.setCell ⟨s, 2, none⟩ (.string ⟨#[]⟩)).heap[s]? = some (boxQ kv sr ⟨#[]⟩ n vu)) := hide (heap_setCell_same hb _)
  have W1 := hide (h.fr F1.out hp hv)
  have H1 := hide (name_writes B _ p v bs t _ tb W1.out rfl hT hl)
  have HP := hide hp; have HV := hide hv
  clear h hb hp hv hT hl a0 a1 a2 a3 a4 af
  go_enter Try.func35, Try.ntmps35
  go_wp2_with fail
  refine HM.out.mono ?_
  rintro e w1 ⟨rfl, hw1⟩
  subst hw1
  go_wp2_with fail
  refine H1.out.mono ?_
  rintro e w2 ⟨v2, rfl, h2, m2⟩
  have HB2 := hide (m2.keep HB1.out HP.out HV.out)
  have S2 := hide ((WmS.ofFr (v := v) (p := p) F1.out).trans (WmS.of m2))
  have W2 := hide h2
  clear h2 m2
  go_wp2
  go_end0
  exact ⟨v2, rfl, W2.out, S2.out, HB2.out⟩
theorem wread_kind : QKind 35 ReadT := fun B W p s v bs t x kv vu h hb hp hv hB hvu hT hl => by
  obtain ⟨h1, h2, h3, h4⟩ := hT
  rw [h1, h2] at hb
  exact (wread_box h hb hp hv h4 hl).mono (fun e W' ⟨v', k1, k2, k3, k4⟩ => ⟨v', vu, k1, k2, k3, k4, list_zero hvu h3⟩)
set_option maxHeartbeats 2000000 in
theorem wcells_kind : QKind 36 CellsT := fun B W p s v bs t x kv vu h hb hp hv hB hvu hT hl => by
  obtain ⟨h1, h3, ta, tb, hA, hN, rfl⟩ := hT
  have HU := hide (list_zero hvu h3)
  have H1 := hide (wread_box h hb hp hv hA (by simp at hl; omega))
  have HSR := hide h1; have HN := hide hN; have HL := hide hl; have HP := hide hp; have HV := hide hv; have HBL := hide (lt_of_heap hb)
  clear h hb hp hv hB hvu hl hA hN h1
  go_enter Try.func36, Try.ntmps36
  go_wp2_with fail
  refine H1.out.mono ?_
  rintro e w1 ⟨v1, rfl, h1, s1, hb1⟩
  obtain ⟨a0, a1, a2, a3, a4, af⟩ := boxQ_cells hb1
  have hv1 := s1.far HBL.out HV.out
  have HM := hide (moved_int ⟨s, 3, none⟩ x.n w1 a3 (af 3))
  have F1 : Hid (Fr (· = s) w1 (w1.setCell ⟨s, 3, none⟩ (.int .i64 0))) := hide ((Fr.refl _ _).set _ _ rfl)
  have HB1 : Hid ((w1.setCell ⟨s, 3, none⟩ (.int .i64 0)).heap[s]? = some (boxQ kv x.src ⟨#[]⟩ 0 vu)) := hide (heap_setCell_same hb1 _)
  have W1 := hide (h1.fr F1.out HP.out hv1)
  have S1 := hide (s1.trans (WmS.ofFr (v := v1) (p := p) F1.out))
  have HV1 := hide hv1
  have H2 := hide (whole_writes B _ p v1 _ tb _ x.n W1.out rfl HN.out (by have := HL.out; simp at this ⊢; omega))
  clear h1 s1 hb1 hv1 H1 a0 a1 a2 a3 a4 af
  go_wp2_with fail
  refine HM.out.mono ?_
  rintro e w2 ⟨rfl, hw2⟩
  subst hw2
  go_wp2_with fail
  refine H2.out.mono ?_
  rintro e w3 ⟨v3, rfl, h3, m3⟩
  have HB3 := hide (m3.keep HB1.out HP.out HV1.out)
  have S3 := hide (S1.out.trans (WmS.of m3))
  have W3 := hide h3
  clear h3 m3
  go_wp2
  go_end0
  exact ⟨v3, vu, rfl, by have := W3.out; rw [List.append_assoc] at this; exact this, S3.out, by have := HB3.out; rw [HSR.out] at this; exact this, HU.out⟩
set_option maxHeartbeats 2000000 in
theorem wwrite_kind : QKind 34 WriteT := fun B W p s v bs t x kv vu h hb hp hv hB hvu hT hl => by
  have hmf : ∀ (fn : Fn) (first cap : Array Value) (w : World), (Instr.makeFunc fn first cap).run Try.prog w = .ok (.func fn first cap) w := fun _ _ _ _ => rfl
  obtain ⟨h1, h2, h3, ts, tb, hS, hM, rfl⟩ := hT
  obtain ⟨ua, uc, rfl⟩ := list_slice hvu
  obtain ⟨a0, a1, a2, a3, a4, af⟩ := boxQ_cells hb
  have HM := hide (moved_ups ⟨s, 4, none⟩ ua _ uc W a4 (af 4))
  have F1 : Hid (Fr (· = s) W (W.setCell ⟨s, 4, none⟩ (.slice none 0 0))) := hide ((Fr.refl _ _).set _ _ rfl)
  have HB1 : Hid ((W.setCell ⟨s, 4, none⟩ (.slice none 0 0)).heap[s]? = some (boxQ kv x.src x.table x.n (.slice none 0 0))) := hide (heap_setCell_same hb _)
  have W1 := hide (h.fr F1.out hp hv)
  have H1 := hide (list_update _ x.ups W1.out (rep_below (ListR.ok upd_ok _ _) hvu (F1.out.belowS hB h.le)) hS hM hl)
  have HP := hide hp; have HV := hide hv; have HX1 := hide h1; have HX2 := hide h2; have HX3 := hide h3
  clear h hb hp hv hB hvu hl hS hM h1 h2 h3 a0 a1 a2 a3 a4 af
  go_enter Try.func34, Try.ntmps34
  go_wp2_with fail
  refine HM.out.mono ?_
  rintro e w1 ⟨rfl, hw1⟩
  subst hw1
  go_wp2_with fail
  refine H1.out.mono ?_
  rintro e w2 ⟨v2, rfl, h2, m2⟩
  have HB2 := hide (m2.keep HB1.out HP.out HV.out)
  have S2 := hide ((WmS.ofFr (v := v) (p := p) F1.out).trans (WmS.of m2))
  have W2 := hide h2
  clear h2 m2
  go_wp2
  go_end0
  exact ⟨v2, _, rfl, W2.out, S2.out, by have := HB2.out; rw [HX1.out, HX2.out, HX3.out] at this; exact this, ⟨_, _, rfl⟩⟩
end Go.Proofs.Ythlfbpadakoamaa
/- package wire: a request, as it is told. -/
namespace Go.Proofs.Ythlfbpadakoamaa
open Go.RowKit Go.MapKept

def reqKT (k : Nat) (x : ReqA) (t : List Nat) : Prop := (k = 1 ∧ InstallT x t) ∨ (k = 2 ∧ WriteT x t) ∨ (k = 3 ∧ ReadT x t) ∨ (k = 4 ∧ CellsT x t)
def ReqT (x : ReqA) (t : List Nat) : Prop := ∃ (k : Nat) (t' : List Nat), x.kind = (k : Int) ∧ t = k :: t' ∧ reqKT k x t'
theorem QKind.mono {G : Nat} {K K' : ReqA → List Nat → Prop} (h : QKind G K) (hk : ∀ x t, K' x t → K x t) : QKind G K' := fun B W p s v bs t x kv vu a b c d e f hT hl => h B W p s v bs t x kv vu a b c d e f (hk x t hT) hl
def tabW (p : Nat) : List (Int × Spec) := [(1, methT 33 p), (2, methT 34 p), (3, methT 35 p), (4, methT 36 p)]
theorem entw_install : entP 33 := enters_of Try.func33 (by kernel_rfl) rfl
theorem entw_write : entP 34 := enters_of Try.func34 (by kernel_rfl) rfl
theorem entw_read : entP 35 := enters_of Try.func35 (by kernel_rfl) rfl
theorem entw_cells : entP 36 := enters_of Try.func36 (by kernel_rfl) rfl
set_option maxRecDepth 100000 in
theorem zeroW_fn (W : World) : (zeroValue 77).run Try.prog W = .ok .nilFunc W := rfl
theorem tabW_has {p : Nat} {s : Int × Spec} (hs : s ∈ tabW p) {k : Nat} (hk : s.1 = (k : Int)) : ∃ G, s.2 = methT G p ∧ entP G ∧ QKind G (reqKT k) ∧ (k = 1 → G = 33) := by
  simp only [tabW, List.mem_cons, List.not_mem_nil, or_false] at hs
  rcases hs with rfl | rfl | rfl | rfl
  all_goals
    simp only at hk
  · obtain rfl : k = 1 := by omega
    exact ⟨_, rfl, entw_install, winstall_kind.mono (fun x t h => by rcases h with ⟨_, h⟩ | ⟨h, _⟩ | ⟨h, _⟩ | ⟨h, _⟩; exact h; omega; omega; omega), fun _ => rfl⟩
  · obtain rfl : k = 2 := by omega
    exact ⟨_, rfl, entw_write, wwrite_kind.mono (fun x t h => by rcases h with ⟨h, _⟩ | ⟨_, h⟩ | ⟨h, _⟩ | ⟨h, _⟩; omega; exact h; omega; omega), fun h => by omega⟩
  · obtain rfl : k = 3 := by omega
    exact ⟨_, rfl, entw_read, wread_kind.mono (fun x t h => by rcases h with ⟨h, _⟩ | ⟨h, _⟩ | ⟨_, h⟩ | ⟨h, _⟩; omega; omega; exact h; omega), fun h => by omega⟩
  · obtain rfl : k = 4 := by omega
    exact ⟨_, rfl, entw_cells, wcells_kind.mono (fun x t h => by rcases h with ⟨h, _⟩ | ⟨h, _⟩ | ⟨h, _⟩ | ⟨_, h⟩; omega; omega; omega; exact h), fun h => by omega⟩
theorem tabW_in {p k : Nat} {x : ReqA} {t : List Nat} (h : reqKT k x t) : ∃ s ∈ tabW p, s.1 = (k : Int) := by
  rcases h with ⟨rfl, _⟩ | ⟨rfl, _⟩ | ⟨rfl, _⟩ | ⟨rfl, _⟩
  · exact ⟨(1, methT 33 p), by simp [tabW], rfl⟩
  · exact ⟨(2, methT 34 p), by simp [tabW], rfl⟩
  · exact ⟨(3, methT 35 p), by simp [tabW], rfl⟩
  · exact ⟨(4, methT 36 p), by simp [tabW], rfl⟩
theorem chosenW (B p k : Nat) (W : World) (h : Tab W B (tabW p)) (hin : ∃ s ∈ tabW p, s.1 = (k : Int)) :
    Calls Try.prog 32 #[.map (some B), .int .u8 k] W fun e W' => ∃ G, e = .returned (.func (Fn.func G) #[.pointer (some ⟨p, 0, none⟩)] #[]) ∧ W' = W ∧ entP G ∧ QKind G (reqKT k) ∧ (k = 1 → G = 33) := by
  rcases h.look Try.underlying79 Try.underlying24 (zeroW_fn W) (k : Int) with ⟨s, hs, hk, v, hl, hv⟩ | ⟨hn, hl⟩
  · obtain ⟨G, e, h1, h2, h3⟩ := tabW_has hs hk
    rw [e] at hv
    have hv' : v = .func (Fn.func G) #[.pointer (some ⟨p, 0, none⟩)] #[] := hv
    subst hv'
    have H1 := hide h1; have H2 := hide h2; have H3 := hide h3
    clear h1 h2 h3 hs hk hv e h hin
    go_enter Try.func32, Try.ntmps32
    go_wp2_with fail
    refine (must_yes _).mono ?_
    rintro e w1 ⟨rfl, rfl⟩
    go_wp2
    go_ret
    exact ⟨G, rfl, rfl, H1.out, H2.out, H3.out⟩
  · obtain ⟨s, hs, hk⟩ := hin
    exact absurd hk (hn s hs)
end Go.Proofs.Ythlfbpadakoamaa
/- package wire: a request, as it is told: the walk. -/
namespace Go.Proofs.Ythlfbpadakoamaa
open Go.RowKit Go.MapKept

set_option maxHeartbeats 4000000 in
theorem wreq_writes : Writes 13 ReqR ReqT := fun B W p v bs t u x h hr hT hl => by
  have hmf : ∀ (fn : Fn) (first cap : Array Value) (w : World), (Instr.makeFunc fn first cap).run Try.prog w = .ok (.func fn first cap) w := fun _ _ _ _ => rfl
  have hmm := @run_makeMap Try.prog
  obtain ⟨vu, rfl, hvu⟩ := hr
  obtain ⟨ua, uc, rfl⟩ := list_slice hvu
  obtain ⟨k, t', hk, rfl, hK⟩ := hT
  have hp := h.lt
  have hle := h.le
  have hk5 : k < 256 := by rcases hK with ⟨h, _⟩ | ⟨h, _⟩ | ⟨h, _⟩ | ⟨h, _⟩ <;> omega
  have hw : IntKind.i64.wrap (k : Int) = k := by rw [IntKind.wrap_i64]; omega
  rw [hk]
  obtain ⟨O, hO⟩ : ∃ O, O = boxQ (k : Int) x.src x.table x.n (.slice ua x.ups.length uc) := ⟨_, rfl⟩
  have hs0 := heap_alloc_new W O
  have hz0 : (W.alloc O).heap.size = W.heap.size + 1 := by simp
  have HT0 : Hid (Tab ((W.alloc O).alloc (.map #[] 0)) (W.heap.size + 1) []) := hide (by have := Tab.empty (W.alloc O); rw [hz0] at this; exact this)
  have W0 := hide ((h.alloc O).alloc (.map #[] 0))
  have HS0 := hide ((Below.heap_alloc (W.alloc O) (.map #[] 0) _ (by simp)).trans hs0)
  have M0 : Hid (Wm p W v ((W.alloc O).alloc (.map #[] 0)) v) := hide ((Wm.alloc _).trans (Wm.alloc _))
  have BL0 : Hid (Below B W ((W.alloc O).alloc (.map #[] 0))) := hide (((Below.refl _ _).alloc hle _).alloc (by simp; omega) _)
  have HNE : Hid (v.ownBlock ≠ some W.heap.size) := hide (fun e => by have := h.bod _ e; omega)
  have HNE1 : Hid (v.ownBlock ≠ some (W.heap.size + 1)) := hide (fun e => by have := h.bod _ e; omega)
  rw [hO] at HT0 W0 HS0 M0 BL0
  unfold boxQ at HT0 W0 M0 BL0
  have HVU := hide hvu; have HK := hide hK; have HL := hide hl; have HPW := hide hp; have HLE := hide hle; have HK5 := hide hk5
  clear h hvu hK hl hs0 hz0 hO hp hle hk5 hk
  go_enter Try.func13, Try.ntmps13
  go_wp2_with (first
    | (refine wpList_insert_tab _ rfl _ _ _ 79 rfl _ _ Try.underlying79 Try.underlying24 (W.heap.size + 1) [] rfl 1 rfl _ rfl (methT 33 p) HT0.out steady_nil (methT_steady _ _) (by simp) (methT_at _ _ _) ?_; intro u1 T1 G1; have HT1 := hide T1; have HG1 := hide G1; clear T1 G1)
    | (refine wpList_insert_tab _ rfl _ _ _ 79 rfl _ _ Try.underlying79 Try.underlying24 (W.heap.size + 1) _ rfl 2 rfl _ rfl (methT 34 p) HT1.out (steady_snoc steady_nil (methT_steady _ _)) (methT_steady _ _) (by simp) (methT_at _ _ _) ?_; intro u2 T2 G2; have HT2 := hide T2; have HG2 := hide (HG1.out.trans G2); clear T2 G2)
    | (refine wpList_insert_tab _ rfl _ _ _ 79 rfl _ _ Try.underlying79 Try.underlying24 (W.heap.size + 1) _ rfl 3 rfl _ rfl (methT 35 p) HT2.out (steady_snoc (steady_snoc steady_nil (methT_steady _ _)) (methT_steady _ _)) (methT_steady _ _) (by simp) (methT_at _ _ _) ?_; intro u3 T3 G3; have HT3 := hide T3; have HG3 := hide (HG2.out.trans G3); clear T3 G3)
    | (refine wpList_insert_tab _ rfl _ _ _ 79 rfl _ _ Try.underlying79 Try.underlying24 (W.heap.size + 1) _ rfl 4 rfl _ rfl (methT 36 p) HT3.out (steady_snoc (steady_snoc (steady_snoc steady_nil (methT_steady _ _)) (methT_steady _ _)) (methT_steady _ _)) (methT_steady _ _) (by simp) (methT_at _ _ _) ?_; intro u4 T4 G4; have HT4 : Hid (Tab u4 (W.heap.size + 1) (tabW p)) := T4; have HG4 := hide (HG3.out.trans G4); have HS4 : Hid (u4.heap[W.heap.size]? = some (boxQ (k : Int) x.src x.table x.n (.slice ua x.ups.length uc))) := hide ((HG4.out.block W.heap.size (by simp; omega) (fun e => by injection e with e; omega)).trans HS0.out); obtain ⟨b0, b1, b2, b3, b4, bf⟩ := boxQ_cells HS4.out; clear T4 G4))
  have hp := HPW.out
  have R4 := hide (W0.out.grown HG4.out (by omega) HNE1.out)
  have M4 : Hid (Wm p W v u4 v) := hide ⟨M0.out.fr.trans (Fr.grown (E := fun b => b = W.heap.size + 1) HG4.out (fun r e => by injection e with e; exact e.symm)) (fun b hb e => by omega), .inl rfl⟩
  have BL4 : Hid (Below B W u4) := hide (BL0.out.trans (Fr.below (Fr.grown (E := fun b => b = W.heap.size + 1) HG4.out (fun r e => by injection e with e; exact e.symm)) (fun b e => by have := HLE.out; omega) W0.out.le))
  clear HT0 HT1 HT2 HT3 HG1 HG2 HG3
  refine (chosenW (W.heap.size + 1) p k u4 HT4.out (tabW_in HK.out)).mono ?_
  rintro e w6 ⟨G, rfl, hw6, hG, hQK, _⟩
  subst hw6
  have HE := hG
  unfold entP at HE
  have HQK := hide hQK
  have H6 := hide (byte_sizes B w6 p v bs [k] k R4.out ⟨HK5.out, rfl⟩ (by have := HL.out; simp at this ⊢; omega))
  clear hG hQK
  go_wp2_with fail
  refine H6.out.mono ?_
  rintro e w7 ⟨v7, rfl, h7, m7⟩
  have hb7 := m7.keep HS4.out (by omega) HNE.out
  have hv7 := m7.far (lt_of_heap HS4.out) HNE.out
  have BL7 := hide (BL4.out.trans (m7.below R4.out R4.out.le))
  have HU := hide (HQK.out B w7 p W.heap.size v7 _ t' x k _ h7 hb7 (by omega) hv7 HLE.out (rep_below (ListR.ok upd_ok _ _) HVU.out BL7.out) HK.out (by have := HL.out; simp at this ⊢; omega))
  have M7 := hide (M4.out.trans m7)
  clear h7 m7 hb7 hv7 b0 b1 b2 b3 b4 bf H6 HQK
  go_wp2_with fail
  refine HU.out.mono ?_
  rintro e w8 ⟨v8, vu8, rfl, h8, s8, hb8, ⟨a1, c1, rfl⟩⟩
  obtain ⟨b0, b1, b2, b3, b4, bf⟩ := boxQ_cells hb8
  have W8 := hide h8
  have S8 := hide s8
  clear h8 s8 hb8 HU
  go_wp2_with fail
  refine (must_yes _).mono ?_
  rintro e w9 ⟨rfl, hw9⟩
  subst hw9
  go_wp2
  go_end0
  exact ⟨v8, rfl, by have := W8.out; rw [List.append_assoc, List.singleton_append] at this; exact this, WmS.out M7.out S8.out (Nat.le_refl _)⟩
/- A request to install nothing, with a number that it may not have. -/
set_option maxHeartbeats 4000000 in
theorem wreq_bad {B : Nat} {W : World} {p : Nat} {v : Value} {bs : List Nat} (h : Wr B W p v bs) (hl : bs.length ≤ 1000) :
    Calls Try.prog 13 #[.pointer (some ⟨p, 0, none⟩), .agg #[.int .u8 1, .string ⟨#[]⟩, .string ⟨#[]⟩, .int .i64 1, .slice none 0 0]] W fun e W' => e = .panicked panW ∧ ∃ v', Wm p W v W' v' := by
  have hmf : ∀ (fn : Fn) (first cap : Array Value) (w : World), (Instr.makeFunc fn first cap).run Try.prog w = .ok (.func fn first cap) w := fun _ _ _ _ => rfl
  have hmm := @run_makeMap Try.prog
  have hp := h.lt
  have hle := h.le
  obtain ⟨O, hO⟩ : ∃ O, O = boxQ 1 ⟨#[]⟩ ⟨#[]⟩ 1 (.slice none 0 0) := ⟨_, rfl⟩
  have hs0 := heap_alloc_new W O
  have hz0 : (W.alloc O).heap.size = W.heap.size + 1 := by simp
  have HT0 : Hid (Tab ((W.alloc O).alloc (.map #[] 0)) (W.heap.size + 1) []) := hide (by have := Tab.empty (W.alloc O); rw [hz0] at this; exact this)
  have W0 := hide ((h.alloc O).alloc (.map #[] 0))
  have HS0 := hide ((Below.heap_alloc (W.alloc O) (.map #[] 0) _ (by simp)).trans hs0)
  have M0 : Hid (Wm p W v ((W.alloc O).alloc (.map #[] 0)) v) := hide ((Wm.alloc _).trans (Wm.alloc _))
  have BL0 : Hid (Below B W ((W.alloc O).alloc (.map #[] 0))) := hide (((Below.refl _ _).alloc hle _).alloc (by simp; omega) _)
  have HNE : Hid (v.ownBlock ≠ some W.heap.size) := hide (fun e => by have := h.bod _ e; omega)
  have HNE1 : Hid (v.ownBlock ≠ some (W.heap.size + 1)) := hide (fun e => by have := h.bod _ e; omega)
  rw [hO] at HT0 W0 HS0 M0 BL0
  unfold boxQ at HT0 W0 M0 BL0
  have HL := hide hl; have HPW := hide hp; have HLE := hide hle
  clear h hl hs0 hz0 hO hp hle
  go_enter Try.func13, Try.ntmps13
  go_wp2_with (first
    | (refine wpList_insert_tab _ rfl _ _ _ 79 rfl _ _ Try.underlying79 Try.underlying24 (W.heap.size + 1) [] rfl 1 rfl _ rfl (methT 33 p) HT0.out steady_nil (methT_steady _ _) (by simp) (methT_at _ _ _) ?_; intro u1 T1 G1; have HT1 := hide T1; have HG1 := hide G1; clear T1 G1)
    | (refine wpList_insert_tab _ rfl _ _ _ 79 rfl _ _ Try.underlying79 Try.underlying24 (W.heap.size + 1) _ rfl 2 rfl _ rfl (methT 34 p) HT1.out (steady_snoc steady_nil (methT_steady _ _)) (methT_steady _ _) (by simp) (methT_at _ _ _) ?_; intro u2 T2 G2; have HT2 := hide T2; have HG2 := hide (HG1.out.trans G2); clear T2 G2)
    | (refine wpList_insert_tab _ rfl _ _ _ 79 rfl _ _ Try.underlying79 Try.underlying24 (W.heap.size + 1) _ rfl 3 rfl _ rfl (methT 35 p) HT2.out (steady_snoc (steady_snoc steady_nil (methT_steady _ _)) (methT_steady _ _)) (methT_steady _ _) (by simp) (methT_at _ _ _) ?_; intro u3 T3 G3; have HT3 := hide T3; have HG3 := hide (HG2.out.trans G3); clear T3 G3)
    | (refine wpList_insert_tab _ rfl _ _ _ 79 rfl _ _ Try.underlying79 Try.underlying24 (W.heap.size + 1) _ rfl 4 rfl _ rfl (methT 36 p) HT3.out (steady_snoc (steady_snoc (steady_snoc steady_nil (methT_steady _ _)) (methT_steady _ _)) (methT_steady _ _)) (methT_steady _ _) (by simp) (methT_at _ _ _) ?_; intro u4 T4 G4; have HT4 : Hid (Tab u4 (W.heap.size + 1) (tabW p)) := T4; have HG4 := hide (HG3.out.trans G4); have HS4 : Hid (u4.heap[W.heap.size]? = some (boxQ 1 ⟨#[]⟩ ⟨#[]⟩ 1 (.slice none 0 0))) := hide ((HG4.out.block W.heap.size (by simp; omega) (fun e => by injection e with e; omega)).trans HS0.out); obtain ⟨b0, b1, b2, b3, b4, bf⟩ := boxQ_cells HS4.out; clear T4 G4))
  have hp := HPW.out
  have R4 := hide (W0.out.grown HG4.out (by omega) HNE1.out)
  have M4 : Hid (Wm p W v u4 v) := hide ⟨M0.out.fr.trans (Fr.grown (E := fun b => b = W.heap.size + 1) HG4.out (fun r e => by injection e with e; exact e.symm)) (fun b hb e => by omega), .inl rfl⟩
  have BL4 : Hid (Below B W u4) := hide (BL0.out.trans (Fr.below (Fr.grown (E := fun b => b = W.heap.size + 1) HG4.out (fun r e => by injection e with e; exact e.symm)) (fun b e => by have := HLE.out; omega) W0.out.le))
  clear HT0 HT1 HT2 HT3 HG1 HG2 HG3
  refine (chosenW (W.heap.size + 1) p 1 u4 HT4.out ⟨(1, methT 33 p), by simp [tabW], rfl⟩).mono ?_
  rintro e w6 ⟨G, rfl, hw6, _, _, hG⟩
  obtain rfl := hG rfl
  subst hw6
  have H6 := hide (byte_sizes B w6 p v bs [1] 1 R4.out ⟨by decide, rfl⟩ (by have := HL.out; simp [slack] at this ⊢; omega))
  clear hG
  go_wp2_with fail
  refine H6.out.mono ?_
  rintro e w7 ⟨v7, rfl, h7, m7⟩
  have hb7 := m7.keep HS4.out (by omega) HNE.out
  have hv7 := m7.far (lt_of_heap HS4.out) HNE.out
  have HU := hide (winstall_box h7 hb7 (by omega) hv7 (by decide) (by have := HL.out; have e0 : (⟨#[]⟩ : ByteArray).size = 0 := rfl; rw [e0]; simp [slack] at this ⊢; omega))
  have M7 := hide (M4.out.trans m7)
  clear h7 m7 hb7 hv7 b0 b1 b2 b3 b4 bf H6
  go_wp2_with fail
  refine HU.out.mono ?_
  rintro e w8 ⟨v8, rfl, h8, s8, hb8⟩
  obtain ⟨b0, b1, b2, b3, b4, bf⟩ := boxQ_cells hb8
  have S8 := hide s8
  clear h8 s8 hb8 HU
  go_wp2_with fail
  refine (must_no _).mono ?_
  rintro e w9 ⟨rfl, hw9⟩
  subst hw9
  go_wp2
  exact ⟨rfl, rfl, v8, WmS.out M7.out S8.out (Nat.le_refl _)⟩
end Go.Proofs.Ythlfbpadakoamaa
