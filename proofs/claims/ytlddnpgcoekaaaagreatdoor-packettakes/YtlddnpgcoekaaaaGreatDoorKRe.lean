/- Rest: the packet's, the document's. -/
import Derived.Test.YtlddnpgcoekaaaaGreatDoorKCk
import Derived.Test.YtlddnpgcoekaaaaGreatDoorCuY
import Derived.Deep.RegionLaw
import Derived.Laws.AppendOwnNone
namespace Go.Proofs.YtlddnpgcoekaaaaGreatDoor
open Go.RowKit

/- An append to a row of one's own, inside a region that draws its order. -/
theorem step_appL {ops : Array Oper} {o : Oper} {a : Act} {w : World} {K : Act → World → Prop} {Q : Exit → Act → World → Prop} {E : Prop}
    (hg : o.guard = none) (s x : Operand) (hop : o.op = Op.call { callee := Callee.builtin Builtin.append, args := #[s, x], argTypes := #[22, 22] })
    (B : Nat) (v : Value) (xs : List Nat) (hs : a.eval s = v) (hown : Own8 w B v xs) (sa : Option Addr) (m cap : Nat) (ys : List Nat) (hx : a.eval x = .slice sa m cap) (hm : m = ys.length) (hr : RdA w sa ys) (hn : sa = none → cap = 0)
    (hl : xs.length + ys.length ≤ 1000000000) (hB : B ≤ w.heap.size)
    (hK : ∀ v' w', Own8 w' B v' (xs ++ ys) → w.grownBy w' v.ownBlock → (v'.ownBlock = v.ownBlock ∨ v'.ownBlock = some w.heap.size) → K (a.put o.dst v') w') :
    if Region.wanted o (yielded ops a.tmps) = true then Oper.wp Tryz.prog o a w K Q else E := by
  have hw : Region.wanted o (yielded ops a.tmps) = true := by simp [Region.wanted, hg]
  rw [if_pos hw]
  subst hm
  obtain ⟨i0, hi0, hz0, hz1, hz2⟩ := info_parts Tryz.info8
  have hcase : (∃ q, sa = some q ∧ ∀ j u, (u8s ys)[j]? = some u → w.cell? (q.add j) = some u) ∨ (sa = none ∧ ys = []) := by
    rcases hr with rfl | ⟨p, off, rfl, _, hc⟩
    · cases sa with
      | none => exact .inr ⟨rfl, rfl⟩
      | some q => exact .inl ⟨q, rfl, fun j u h => by simp [u8s] at h⟩
    · exact .inl ⟨_, rfl, rdA_src hc⟩
  rcases hcase with ⟨q, rfl, hc⟩ | ⟨rfl, rfl⟩
  rotate_left
  · have hx2 : a.eval x = .slice none 0 0 := by rw [hx, hn rfl]; rfl
    have hrun := run_append_owned_none (P := Tryz.prog) (w := w) B 22 o.type 5 i0 1 Tryz.underlying22 hi0 v xs.length (u8s xs) hown
    unfold Oper.wp
    simp [execOp, hop, resolve, invoke, builtin, hs, hx2, hrun, Result.andThen]
    exact hK v w (by rw [List.append_nil]; exact hown) ⟨rfl, rfl, rfl, Nat.le_refl _, fun _ _ _ => rfl⟩ (.inl rfl)
  · obtain ⟨v', w', hrun, r1, r2, _, r4⟩ := run_append_own_at (P := Tryz.prog) w B 22 o.type 5 i0 (.int .u8 0) 1 1 Tryz.underlying22 hi0 hz0 hz1 hz2 rfl (by decide) v xs.length (u8s xs) hown q ys.length cap (u8s ys) (by rw [u8s_length, Nat.mul_one]) hc (u8s_one ys) (by unfold maxLen; omega) (by omega) hB
    unfold Oper.wp
    simp [execOp, hop, resolve, invoke, builtin, hs, hx, hrun, Result.andThen]
    refine hK v' w' ?_ r2 r4
    unfold Own8
    rw [List.length_append, u8s_append]
    exact r1
theorem keepB {S : World → Prop} {w1 W W' : World} (HH : ∀ w', Below w1.heap.size w1 w' → S w') (h : Below w1.heap.size w1 W) (hb : Below W.heap.size W W') : S W' := HH _ (h.trans (hb.mono h.size))
theorem rd_drop {W : World} {p off o' k : Nat} {xs : List Nat} (hc : ∀ i (h : i < xs.length), W.cell? ⟨p, off + i, none⟩ = some (.int .u8 (xs[i] : Nat))) (hp : p < W.heap.size) (ho : xs.length = k ∨ o' = off + k) : RdA W (some ⟨p, o', none⟩) (xs.drop k) := by
  rcases ho with e | rfl
  · exact .inl (List.drop_eq_nil_of_le (by omega))
  · refine .inr ⟨p, off + k, rfl, hp, fun i hi => ?_⟩
    have hi' : k + i < xs.length := by rw [List.length_drop] at hi; omega
    rw [show off + k + i = off + (k + i) by omega, hc (k + i) hi']
    simp
theorem own8_lo {W : World} {B B' : Nat} {v : Value} {xs : List Nat} (h : Own8 W B v xs) (hb : B' ≤ B) : Own8 W B' v xs := by
  refine ⟨h.1, ?_⟩
  rcases h.2 with h0 | ⟨gr, cap, cur, e, hg, rest⟩
  · exact .inl h0
  · exact .inr ⟨gr, cap, cur, e, Nat.le_trans hb hg, rest⟩
theorem own_cells {W : World} {B gr n cap : Nat} {xs : List Nat} (h : Own8 W B (.slice (some ⟨gr, 0, none⟩) n cap) xs) (hn : n = xs.length) : gr < W.heap.size ∧ ∀ i (h : i < xs.length), W.cell? ⟨gr, 0 + i, none⟩ = some (.int .u8 (xs[i] : Nat)) := by
  subst hn
  refine ⟨(World.ownsRow.lt h gr rfl).2, fun i hi => ?_⟩
  have := World.ownsRow.cellAt h i (by omega)
  rw [Nat.zero_add, this]
  simp [u8s, hi]
set_option maxRecDepth 100000 in
set_option maxHeartbeats 4000000 in
theorem rest_own {w : World} {B g : Nat} {a : Option Addr} {cap : Nat} {xs : List Nat} {t : Nat} (h : CK w B g a cap xs t) (k : Nat) (hk : k = (t + 7) / 8) :
    Calls Tryz.prog 15 #[.pointer (some ⟨g, 0, none⟩)] w fun e w' => ∃ u, e = .returned u ∧ Own8 w' w.heap.size u (xs.drop k) ∧ Below w.heap.size w w' := by
  have hkl : k ≤ xs.length := by have := h.le; omega
  have hl := h.l1
  have HI := hide (isThere_any h.cur)
  have HG := hide (fun W => begun_any t W (by have := h.le; omega))
  rw [← hk] at HG
  have hkI : (k : Int) ≤ (xs.length : Int) := by omega
  have HH := hide h
  rcases h.own.2 with ⟨h0, hx0⟩ | ⟨gr, gc, cur, hv, hgB, hcur, hcl, _⟩
  · injection h0 with ha hn0 hc0
    obtain rfl : xs = [] := List.length_eq_zero_iff.1 hn0
    obtain rfl : k = 0 := by simpa using hkl
    subst ha hc0
    clear h hk hkl
    go_enter Tryz.func15, Tryz.ntmps15
    go_wp2_with fail
    refine HI.out.mono ?_
    rintro e w1 ⟨rfl, hb1⟩
    have K1 := HH.out.next hb1
    have B1 := hide hb1
    have hlt := K1.cur.lt
    have c0 := K1.cur.c0
    have c1 := K1.cur.c1
    have HS : Hid (∀ w', Below w1.heap.size w1 w' → Below w1.heap.size w1 w' ∧ w'.cell? ⟨g, 0, none⟩ = some (.int .i64 t) ∧ w'.cell? ⟨g, 1, none⟩ = some (.slice none 0 0)) := fun w' h => ⟨h, (h.cell (p := ⟨g, 0, none⟩) hlt).trans c0, (h.cell (p := ⟨g, 1, none⟩) hlt).trans c1⟩
    have HC := hide (fun W => clone_any none 0 [] W (by simp) (.inl rfl) (fun _ => rfl))
    clear hb1 K1
    go_wp2
    go_region_held3 (fun w' => Below w1.heap.size w1 w' ∧ w'.cell? ⟨g, 0, none⟩ = some (.int .i64 t) ∧ w'.cell? ⟨g, 1, none⟩ = some (.slice none 0 0)) (first | exact keepB HS.out (And.left (by assumption)) (by assumption) | exact HS.out _ (Below.refl _ _).drew)
      (first
        | (go_at_call 25; refine (HG.out _).mono ?_; rintro e w2 ⟨rfl, hb2⟩)
        | (go_at_call 19; refine (HC.out _).mono ?_; rintro e w3 ⟨u, rfl, ho3, hb3⟩))
    all_goals
      have BL : Hid (Below w.heap.size w w3) := B1.out.trans ((And.left (by assumption) : Below w1.heap.size w1 w3).mono B1.out.size)
      have O3 : Hid (Own8 w3 w.heap.size u []) := own8_lo ho3 (by have := B1.out.size; have h2 : w1.heap.size ≤ w2.heap.size := hb2.size; omega)
      clear ho3 hb3 hb2
      go_wp2
      go_ret
      exact ⟨u, rfl, O3.out, BL.out⟩
  · injection hv with ha hnn hcc
    subst ha hcc
    clear hnn
    have hcap : xs.length ≤ cap := hcl
    obtain ⟨o', hck, ho'⟩ : ∃ o', ((cap = k ∧ o' = 0) ∨ (¬ cap = k ∧ k = o')) ∧ (xs.length = k ∨ o' = 0 + k) := by
      by_cases hck : cap = k
      · exact ⟨0, .inl ⟨hck, rfl⟩, .inl (by omega)⟩
      · exact ⟨k, .inr ⟨hck, rfl⟩, .inr (Nat.zero_add k).symm⟩
    have hkc : (k : Int) ≤ (cap : Int) := by omega
    have HO := hide ho'
    clear h hk hcur hgB ho' hcl
    have HCl : Hid (∀ W cc, CK W B g (some ⟨gr, 0, none⟩) cap xs t → Calls Tryz.prog 19 #[.slice (some ⟨gr, o', none⟩) (xs.length - k) cc] W fun e w' => ∃ u, e = .returned u ∧ Own8 w' W.heap.size u (xs.drop k) ∧ Below W.heap.size W w') := by
      intro W cc hW
      obtain ⟨h1, h2⟩ := own_cells hW.own rfl
      have := clone_any (some ⟨gr, o', none⟩) cc (xs.drop k) W (by rw [List.length_drop]; omega) (rd_drop h2 h1 HO.out) (fun e => by cases e)
      rw [List.length_drop] at this
      exact this
    rcases hck with ⟨hck, rfl⟩ | ⟨hck, rfl⟩
    all_goals
      go_enter Tryz.func15, Tryz.ntmps15
      go_wp2_with fail
      refine HI.out.mono ?_
      rintro e w1 ⟨rfl, hb1⟩
      have K1 := HH.out.next hb1
      have HK1 := hide K1
      have B1 := hide hb1
      have hlt := K1.cur.lt
      have c0 := K1.cur.c0
      have c1 := K1.cur.c1
      have HS : Hid (∀ w', Below w1.heap.size w1 w' → Below w1.heap.size w1 w' ∧ w'.cell? ⟨g, 0, none⟩ = some (.int .i64 t) ∧ w'.cell? ⟨g, 1, none⟩ = some (.slice (some ⟨gr, 0, none⟩) xs.length cap)) := fun w' h => ⟨h, (h.cell (p := ⟨g, 0, none⟩) hlt).trans c0, (h.cell (p := ⟨g, 1, none⟩) hlt).trans c1⟩
      clear hb1 K1
      go_wp2
      go_region_held3 (fun w' => Below w1.heap.size w1 w' ∧ w'.cell? ⟨g, 0, none⟩ = some (.int .i64 t) ∧ w'.cell? ⟨g, 1, none⟩ = some (.slice (some ⟨gr, 0, none⟩) xs.length cap)) (first | exact keepB HS.out (And.left (by assumption)) (by assumption) | exact HS.out _ (Below.refl _ _).drew)
        (first
          | (go_at_call 25; refine (HG.out _).mono ?_; rintro e w2 ⟨rfl, hb2⟩)
          | (go_at_call 19; refine (HCl.out _ _ (HK1.out.next (And.left (by assumption) : Below w1.heap.size w1 _))).mono ?_; rintro e w3 ⟨u, rfl, ho3, hb3⟩))
      all_goals
        have BL : Hid (Below w.heap.size w w3) := B1.out.trans ((And.left (by assumption) : Below w1.heap.size w1 w3).mono B1.out.size)
        have O3 : Hid (Own8 w3 w.heap.size u (xs.drop k)) := own8_lo ho3 (by have := B1.out.size; have h2 : w1.heap.size ≤ w2.heap.size := hb2.size; omega)
        clear ho3 hb3 hb2
        go_wp2
        go_ret
        exact ⟨u, rfl, O3.out, BL.out⟩
set_option maxRecDepth 100000 in
set_option maxHeartbeats 4000000 in
theorem rrest_own {w : World} {B g : Nat} {v : Value} {xs : List Nat} {t : Nat} (h : RC w B g v xs t) (k : Nat) (hk : k = (t + 7) / 8) :
    Calls Tryz.prog 16 #[.pointer (some ⟨g, 0, none⟩)] w fun e w' => ∃ u, e = .returned u ∧ Own8 w' w.heap.size u (xs.drop k) ∧ Below w.heap.size w w' := by
  have hkl : k ≤ xs.length := by have := h.le; omega
  have hl := h.l1
  have hkI : (k : Int) ≤ (xs.length : Int) := by omega
  have hq : ((t : Int) + 7) / 8 = (k : Int) := by omega
  have hq2 : ((t : Int) + 7).tdiv 8 = (k : Int) := by rw [Int.tdiv_eq_ediv_of_nonneg (by omega)]; omega
  have ht9 : t ≤ 600000 := by have := h.le; omega
  have hw1 : IntKind.i64.wrap ((t : Int) + 7) = (t : Int) + 7 := by rw [IntKind.wrap_i64]; omega
  have hw2 : IntKind.i64.wrap (k : Int) = (k : Int) := by rw [IntKind.wrap_i64]; omega
  obtain ⟨c0, c1, _⟩ := h.cells
  have HH := hide h
  rcases h.own.2 with ⟨rfl, hx0⟩ | ⟨gr, cap, cur, rfl, hgB, hcur, hcl, _⟩
  · obtain rfl : xs = [] := List.length_eq_zero_iff.1 (by simpa using hx0)
    obtain rfl : k = 0 := by simpa using hkl
    obtain rfl : t = 0 := by have := h.le; simpa using this
    clear h hk hkl hx0 hq hq2 hw1 hw2
    have hw7 : IntKind.i64.wrap 7 = 7 := by rw [IntKind.wrap_i64]; omega
    have hd7 : (7 : Int).tdiv 8 = 0 := rfl
    have hw0 : IntKind.i64.wrap 0 = 0 := by rw [IntKind.wrap_i64]; omega
    go_enter Tryz.func16, Tryz.ntmps16
    go_wp2
    go_region_law (refine step_appL rfl _ _ rfl w.heap.size (.slice none 0 0) [] rfl (Own8.nil _ _) none 0 0 [] rfl rfl (.inl rfl) (fun _ => rfl) (by simp) (by simp) ?_; intro v7 w7 O7 G7 K7; have OO7 := hide O7; have B7 := hide (((Below.refl w.heap.size w).drew).grown G7 (by simp) (fun k e => by cases e)); clear O7 G7 K7)
    all_goals
      go_wp2
      go_ret
      exact ⟨v7, rfl, OO7.out, B7.out⟩
  · have hcap : xs.length ≤ cap := hcl
    obtain ⟨o', hck, ho'⟩ : ∃ o', ((cap = k ∧ o' = 0) ∨ (¬ cap = k ∧ k = o')) ∧ (xs.length = k ∨ o' = 0 + k) := by
      by_cases hck : cap = k
      · exact ⟨0, .inl ⟨hck, rfl⟩, .inl (by omega)⟩
      · exact ⟨k, .inr ⟨hck, rfl⟩, .inr (Nat.zero_add k).symm⟩
    have hkc : (k : Int) ≤ (cap : Int) := by omega
    have HR : Hid (RdA w.drew (some ⟨gr, o', none⟩) (xs.drop k)) := by
      obtain ⟨h1, h2⟩ := own_cells HH.out.own rfl
      exact rd_drop (W := w.drew) h2 h1 ho'
    clear h hk hcur hgB ho' hcl
    rcases hck with ⟨hck, rfl⟩ | ⟨hck, rfl⟩
    all_goals
      go_enter Tryz.func16, Tryz.ntmps16
      go_wp2
      go_region_law (refine step_appL rfl _ _ rfl w.heap.size (.slice none 0 0) [] rfl (Own8.nil _ _) (some ⟨gr, _, none⟩) (xs.length - k) _ (xs.drop k) rfl (by rw [List.length_drop]) HR.out (fun e => by cases e) (by rw [List.length_drop]; simp; omega) (by simp) ?_; intro v7 w7 O7 G7 K7; have OO7 := hide O7; have B7 := hide (((Below.refl w.heap.size w).drew).grown G7 (by simp) (fun k e => by cases e)); clear O7 G7 K7)
      all_goals
        go_wp2
        go_ret
        exact ⟨v7, rfl, OO7.out, B7.out⟩
end Go.Proofs.YtlddnpgcoekaaaaGreatDoor
