/- Pieces of the proof: QbR, QbS, Math. -/
import Derived.Test.YtpgkohimcofjnaaGreatDoorM7
import Derived.Test.YtpgkohimcofjnaaGreatDoorM8
import Derived.Laws.BitsAllLaws
import Derived.Laws.ShiftsVarLaws
/- A Book that is told lists of bytes, and lists of such lists; Records. -/
namespace Go.Proofs.YtpgkohimcofjnaaGreatDoor
open Go.RowKit

theorem BE.ty {W : World} {B g n : Nat} {vb vq : Value} {hs : List Hb} {qs : List Hc} (h : BokQ W B g vb n hs vq qs) {b : Nat} (hb : BE g vb b) : b = g ∨ ∃ cur, W.heap[b]? = some (.cells cur 78 (0, 0)) := by
  rcases hb with e | e
  · exact .inl e
  · exact .inr (row_ty h.bo.bk.row e)
theorem BEc.ty {W : World} {B g n : Nat} {vb vq : Value} {hs : List Hb} {qs : List Hc} (h : BokQ W B g vb n hs vq qs) {b : Nat} (hb : BEc g vq b) : b = g ∨ ∃ cur, W.heap[b]? = some (.cells cur 80 (0, 0)) := by
  rcases hb with e | e
  · exact .inl e
  · exact .inr (row_ty h.bq.row e)
/- One more list of bytes. -/
theorem bytes_bokQ {W : World} {B g n : Nat} {vb v vq : Value} {hs : List Hb} {qs : List Hc} {xs : List Nat} (h : BokQ W B g vb n hs vq qs) (hl : hs.length < 100000) (hn : n < 100000) (ho : Own8 W B v xs) (hx : xs.length ≤ 100000000) (s1 : v.ownBlock ≠ some g) (s3 : ∀ x ∈ hs, ∀ b, x.v.ownBlock = some b → v.ownBlock ≠ some b) :
    Calls Tryz.prog 9 #[.pointer (some ⟨g, 0, none⟩), v] W fun e W' => e = .returned (.tuple #[]) ∧ ∃ vb', BokQ W' B g vb' (n + 1) (hs ++ [⟨v, .slice none 0 0, n + 1, xs⟩]) vq qs ∧ Fr (BE g vb) W W' := by
  refine (bytes_bok h.bo hl hn ho hx s1 (fun b hb e => ?_) s3).mono ?_
  · obtain ⟨c1, e1⟩ := row_ty ho hb
    obtain ⟨c2, e2⟩ := row_ty h.bo.bk.row e
    exact absurd (ty_ne e1 e2) (by decide)
  · rintro e W' ⟨rfl, vb', hb, hf, hbl, h5⟩
    have nE : ∀ {e c n : Nat} {v : Value} {xs : List Value}, W.ownsRow B e c v n xs → e ≠ 78 → v.ownBlock ≠ some g → ∀ b, v.ownBlock = some b → ¬ BE g vb b := fun ho hne hg b hb hE => by
      rcases BE.ty h hE with e | ⟨c2, e2⟩
      · exact hg (by rw [hb, e])
      · obtain ⟨c1, e1⟩ := row_ty ho hb
        exact hne (ty_ne e1 e2)
    refine ⟨rfl, vb', ⟨hb, ⟨h.bq.gB, h5.trans h.bq.co, hb.bk.soft, ownR_fr h.bq.row hf (nE h.bq.row (by decide) h.bq.ne), h.bq.ne⟩, h.sq, fun x hx => ?_, h.lq, h.nq⟩, hf⟩
    obtain ⟨ys, hy⟩ := h.oq x hx
    exact ⟨ys, ownR_fr hy hf (nE hy (by decide) (h.sq.g x hx))⟩
/- One more list of such lists. -/
theorem blob_bokQ {W : World} {B g n : Nat} {vb v vq : Value} {hs : List Hb} {qs : List Hc} {vs : List Value} (h : BokQ W B g vb n hs vq qs) (hl : qs.length < 100000) (hn : n < 100000) (ho : W.ownsRow B 22 1 v vs.length vs) (hxl : vs.length ≤ 100000000) (s1 : v.ownBlock ≠ some g) (s3 : ∀ x ∈ qs, ∀ b, x.v.ownBlock = some b → v.ownBlock ≠ some b) :
    Calls Tryz.prog 18 #[.pointer (some ⟨g, 0, none⟩), v] W fun e W' => e = .returned (.tuple #[]) ∧ ∃ vq', BokQ W' B g vb (n + 1) hs vq' (qs ++ [⟨v, .slice none 0 0, n + 1, vs.length⟩]) ∧ Fr (BEc g vq) W W' := by
  obtain ⟨a, c, rfl⟩ := ownR_shape ho
  refine (keepBlob_bk h.bq h.bo.bk.c0 (by omega) (by omega) a vs.length c).mono ?_
  rintro e W' ⟨rfl, vq', hk⟩
  have nE : ∀ {e c n : Nat} {v : Value} {xs : List Value}, W.ownsRow B e c v n xs → e ≠ 80 → v.ownBlock ≠ some g → ∀ b, v.ownBlock = some b → ¬ BEc g vq b := fun ho hne hg b hb hE => by
    rcases BEc.ty h hE with e | ⟨c2, e2⟩
    · exact hg (by rw [hb, e])
    · obtain ⟨c1, e1⟩ := row_ty ho hb
      exact hne (ty_ne e1 e2)
  have hbk : Bk W' B g vb (n + 1) hs := ⟨h.bo.bk.gB, hk.c0, fun o o1 o2 o3 o4 => (hk.cs o o4 (by omega)).trans (h.bo.bk.cz o o1 o2 o3 o4), (hk.cs 2 (by decide) (by decide)).trans h.bo.bk.c2, hk.bk.soft, ownsRow_fr h.bo.bk.row hk.fr (nE h.bo.bk.row (by decide) h.bo.bk.ne), h.bo.bk.ne⟩
  refine ⟨rfl, vq', ⟨⟨hbk, h.bo.sep, fun x hx => (h.bo.ow x hx).fr hk.fr (nE (h.bo.ow x hx) (by decide) (h.bo.sep.g x hx)), h.bo.lim, h.bo.nn⟩, hk.bk, ⟨fun x hx => ?_, fun x hx b hb' e => ?_, fun i j hi hj hne b hbi hbj => ?_⟩, fun x hx => ?_, fun x hx => ?_, by have := h.nq; simp; omega⟩, hk.fr⟩
  · rcases List.mem_append.1 hx with hx | hx
    · exact h.sq.g x hx
    · simp at hx; subst hx; exact s1
  · have hown : ∃ n ys, W.ownsRow B 22 1 x.v n ys := by
      rcases List.mem_append.1 hx with hx | hx
      · obtain ⟨ys, hy⟩ := h.oq x hx; exact ⟨_, ys, hy⟩
      · simp at hx; subst hx; exact ⟨_, vs, ho⟩
    obtain ⟨_, ys, hy⟩ := hown
    rcases hk.bl b e with e | e
    · obtain ⟨c1, e1⟩ := row_ty hy hb'
      obtain ⟨c2, e2⟩ := row_ty h.bq.row e
      exact absurd (ty_ne e1 e2) (by decide)
    · have := (World.ownsRow.lt hy b hb').2; omega
  · by_cases h1 : i < qs.length
    · rw [List.getElem_append_left h1] at hbi
      by_cases h2 : j < qs.length
      · rw [List.getElem_append_left h2] at hbj
        exact h.sq.p i j h1 h2 hne b hbi hbj
      · have : j = qs.length := by simp at hj; omega
        subst this
        simp only [List.getElem_concat_length] at hbj
        exact s3 _ (List.getElem_mem h1) b hbi hbj
    · have : i = qs.length := by simp at hi; omega
      subst this
      simp only [List.getElem_concat_length] at hbi
      have h2 : j < qs.length := by simp at hj; omega
      rw [List.getElem_append_left h2] at hbj
      exact s3 _ (List.getElem_mem h2) b hbj hbi
  · rcases List.mem_append.1 hx with hx | hx
    · obtain ⟨ys, hy⟩ := h.oq x hx
      exact ⟨ys, ownR_fr hy hk.fr (nE hy (by decide) (h.sq.g x hx))⟩
    · simp at hx; subst hx; exact ⟨vs, ownR_fr ho hk.fr (nE ho (by decide) s1)⟩
  · rcases List.mem_append.1 hx with hx | hx
    · exact h.lq x hx
    · simp at hx; subst hx; exact ⟨hxl, by show n + 1 < _; omega, _, _, _, rfl⟩
/- A Book, and lists that it has not been told yet. -/
structure Bo4 (w W : World) (B g : Nat) (vb : Value) (n : Nat) (hs : List Hb) (vq : Value) (qs : List Hc) (us : List (Value × List Nat)) (ps : List (Value × List Value)) : Prop where
  bl : Below w.heap.size w W
  wB : w.heap.size ≤ B
  bo : BokQ W B g vb n hs vq qs
  ow : ∀ u ∈ us, Own8 W B u.1 u.2 ∧ u.2.length ≤ 100000000 ∧ u.1.ownBlock ≠ some g
  po : ∀ p ∈ ps, W.ownsRow B 22 1 p.1 p.2.length p.2 ∧ p.2.length ≤ 100000000 ∧ p.1.ownBlock ≠ some g
  s3 : ∀ u ∈ us, ∀ x ∈ hs, ∀ b, x.v.ownBlock = some b → u.1.ownBlock ≠ some b
  s4 : us.Pairwise (fun u v => ∀ b, u.1.ownBlock = some b → v.1.ownBlock ≠ some b)
  p3 : ∀ u ∈ ps, ∀ x ∈ qs, ∀ b, x.v.ownBlock = some b → u.1.ownBlock ≠ some b
  p4 : ps.Pairwise (fun u v => ∀ b, u.1.ownBlock = some b → v.1.ownBlock ≠ some b)
theorem Bo4.BW {w W : World} {B g n : Nat} {vb vq : Value} {hs : List Hb} {qs : List Hc} {us : List (Value × List Nat)} {ps : List (Value × List Value)} (h : Bo4 w W B g vb n hs vq qs us ps) : B ≤ W.heap.size := by have := h.bo.bo.bk.gB; have := h.bo.bo.bk.lt; omega
theorem Bo4.byte {w W : World} {B g n : Nat} {vb vq : Value} {hs : List Hb} {qs : List Hc} {u : Value × List Nat} {us : List (Value × List Nat)} {ps : List (Value × List Value)} (h : Bo4 w W B g vb n hs vq qs (u :: us) ps) (hl : hs.length < 100000) (hn : n < 100000) :
    Calls Tryz.prog 9 #[.pointer (some ⟨g, 0, none⟩), u.1] W fun e W' => e = .returned (.tuple #[]) ∧ ∃ vb' hs', Bo4 w W' B g vb' (n + 1) hs' vq qs us ps ∧ hs'.length = hs.length + 1 := by
  obtain ⟨u1, u2, u3⟩ := h.ow u (List.mem_cons_self ..)
  have hm : ∀ x ∈ us, x ∈ u :: us := fun x hx => List.mem_cons_of_mem _ hx
  refine (bytes_bokQ h.bo hl hn u1 u2 u3 (h.s3 u (List.mem_cons_self ..))).mono ?_
  rintro e W' ⟨rfl, vb', hb, hf⟩
  have hE : ∀ b, BE g vb b → B ≤ b := fun b k => by
    rcases k with k | k
    · rw [k]; exact h.bo.bo.bk.gB
    · exact (h.bo.bo.bk.vlt b k).1
  have nE : ∀ {e c n : Nat} {v : Value} {xs : List Value}, W.ownsRow B e c v n xs → e ≠ 78 → v.ownBlock ≠ some g → ∀ b, v.ownBlock = some b → ¬ BE g vb b := fun ho hne hg b hb hE => by
    rcases BE.ty h.bo hE with e | ⟨c2, e2⟩
    · exact hg (by rw [hb, e])
    · obtain ⟨c1, e1⟩ := row_ty ho hb
      exact hne (ty_ne e1 e2)
  refine ⟨rfl, vb', _, ⟨h.bl.trans ((hf.below hE h.BW).mono h.wB), h.wB, hb, fun x hx => ?_, fun p hp => ?_, fun x hx y hy b hyb => ?_, (List.pairwise_cons.1 h.s4).2, h.p3, h.p4⟩, by simp⟩
  · obtain ⟨x1, x2, x3⟩ := h.ow x (hm x hx)
    exact ⟨x1.fr hf (nE x1 (by decide) x3), x2, x3⟩
  · obtain ⟨p1, p2, p3⟩ := h.po p hp
    exact ⟨ownR_fr p1 hf (nE p1 (by decide) p3), p2, p3⟩
  · rcases List.mem_append.1 hy with hy | hy
    · exact h.s3 x (hm x hx) y hy b hyb
    · rw [List.mem_singleton.1 hy] at hyb
      exact (List.pairwise_cons.1 h.s4).1 x hx b hyb
theorem Bo4.blob {w W : World} {B g n : Nat} {vb vq : Value} {hs : List Hb} {qs : List Hc} {us : List (Value × List Nat)} {p : Value × List Value} {ps : List (Value × List Value)} (h : Bo4 w W B g vb n hs vq qs us (p :: ps)) (hl : qs.length < 100000) (hn : n < 100000) :
    Calls Tryz.prog 18 #[.pointer (some ⟨g, 0, none⟩), p.1] W fun e W' => e = .returned (.tuple #[]) ∧ ∃ vq' qs', Bo4 w W' B g vb (n + 1) hs vq' qs' us ps ∧ qs'.length = qs.length + 1 := by
  obtain ⟨u1, u2, u3⟩ := h.po p (List.mem_cons_self ..)
  have hm : ∀ x ∈ ps, x ∈ p :: ps := fun x hx => List.mem_cons_of_mem _ hx
  refine (blob_bokQ h.bo hl hn u1 u2 u3 (h.p3 p (List.mem_cons_self ..))).mono ?_
  rintro e W' ⟨rfl, vq', hb, hf⟩
  have hE : ∀ b, BEc g vq b → B ≤ b := fun b k => by
    rcases k with k | k
    · rw [k]; exact h.bo.bo.bk.gB
    · exact (h.bo.bq.vlt b k).1
  have nE : ∀ {e c n : Nat} {v : Value} {xs : List Value}, W.ownsRow B e c v n xs → e ≠ 80 → v.ownBlock ≠ some g → ∀ b, v.ownBlock = some b → ¬ BEc g vq b := fun ho hne hg b hb hE => by
    rcases BEc.ty h.bo hE with e | ⟨c2, e2⟩
    · exact hg (by rw [hb, e])
    · obtain ⟨c1, e1⟩ := row_ty ho hb
      exact hne (ty_ne e1 e2)
  refine ⟨rfl, vq', _, ⟨h.bl.trans ((hf.below hE h.BW).mono h.wB), h.wB, hb, fun x hx => ?_, fun q hq => ?_, h.s3, h.s4, fun x hx y hy b hyb => ?_, (List.pairwise_cons.1 h.p4).2⟩, by simp⟩
  · obtain ⟨x1, x2, x3⟩ := h.ow x hx
    exact ⟨x1.fr hf (nE x1 (by decide) x3), x2, x3⟩
  · obtain ⟨p1, p2, p3⟩ := h.po q (hm q hq)
    exact ⟨ownR_fr p1 hf (nE p1 (by decide) p3), p2, p3⟩
  · rcases List.mem_append.1 hy with hy | hy
    · exact h.p3 x (hm x hx) y hy b hyb
    · rw [List.mem_singleton.1 hy] at hyb
      exact (List.pairwise_cons.1 h.p4).1 x hx b hyb
theorem Bo4.apart {w W : World} {B g n : Nat} {vb vq : Value} {hs : List Hb} {qs : List Hc} (h : Bo4 w W B g vb n hs vq qs [] []) : Calls Tryz.prog 11 #[.pointer (some ⟨g, 0, none⟩)] W fun e W' => e = .returned (.bool true) ∧ Below w.heap.size w W' := by
  refine (apartQ_yes h.bo).mono ?_
  rintro e W' ⟨rfl, hf⟩
  refine ⟨rfl, h.bl.trans ((hf.below (B := B) (fun b k => ?_) h.BW).mono h.wB)⟩
  rcases k with (⟨x, hx, k⟩ | k) | (⟨x, hx, k⟩ | k)
  · exact (World.ownsRow.lt (h.bo.bo.ow x hx) b k).1
  · exact (h.bo.bo.bk.vlt b k).1
  · obtain ⟨xs, ho⟩ := h.bo.oq x hx; exact (World.ownsRow.lt ho b k).1
  · exact (h.bo.bq.vlt b k).1
end Go.Proofs.YtpgkohimcofjnaaGreatDoor
/- Records of a Book. -/
namespace Go.Proofs.YtpgkohimcofjnaaGreatDoor
open Go.RowKit

set_option maxRecDepth 100000 in
set_option maxHeartbeats 2000000 in
theorem bookRecs_any {w W : World} {B g n : Nat} {vb vq v : Value} {hs : List Hb} {qs : List Hc} {us1 us2 : List (Value × List Nat)} {vs : List Value} {ps : List (Value × List Value)} (h : Bo4 w W B g vb n hs vq qs (us1 ++ us2) ((v, vs) :: ps)) (hv : us1.map (·.1) = vs) (hl : hs.length + us1.length < 100000) (hn : n + us1.length + 1 < 100000) (hq : qs.length < 100000) :
    Calls Tryz.prog 10 #[.pointer (some ⟨g, 0, none⟩), v] W fun e W' => e = .returned (.tuple #[]) ∧ ∃ vb' hs' vq' qs', Bo4 w W' B g vb' (n + us1.length + 1) hs' vq' qs' us2 ps ∧ hs'.length = hs.length + us1.length ∧ qs'.length = qs.length + 1 := by
  obtain ⟨N, hN⟩ : ∃ N, us1.length = N := ⟨_, rfl⟩
  have hvl : vs.length = N := by rw [← hv, List.length_map, hN]
  have hsh : ∃ a c, v = .slice a N c := by
    have := ownR_shape (h.po _ (List.mem_cons_self ..)).1
    rw [hvl] at this
    exact this
  obtain ⟨a, c, rfl⟩ := hsh
  have H0 := hide h
  have HV := hide hv
  have HN := hide hN
  have HVL := hide hvl
  simp only [hN] at hl hn
  have HL := hide hl
  have HNN := hide hn
  have HQ := hide hq
  have hNb : N < 100000 := by omega
  rw [hN]
  clear h hv hN hvl hl hn hq
  go_enter Tryz.func10, Tryz.ntmps10
  go_wp2
  go_loopg [4] N (fun gk i wr => ∃ (j : Nat) (vb' : Value) (hs' : List Hb), j + gk = N ∧ i = .int .i64 (j : Int) ∧ Hid (hs'.length = hs.length + j) ∧ Hid (Bo4 w wr B g vb' (n + j) hs' vq qs (us1.drop j ++ us2) ((.slice a N c, vs) :: ps)))
  case atStart => exact ⟨0, vb, hs, by omega, rfl, rfl, by rw [List.drop_zero]; exact H0.out⟩
  case round =>
    obtain ⟨j, vb', hs', hj, rfl, HLh, HB⟩ := hrel
    have HJ := hide hj
    clear hj H0
    by_cases hlt : j < N
    · have hju : j < us1.length := by rw [HN.out]; exact hlt
      have hjI : (j : Int) < (N : Int) := by omega
      have dj : decide (j < N) = true := by simp; omega
      have hdrop : us1.drop j = us1[j] :: us1.drop (j + 1) := List.drop_eq_getElem_cons hju
      have hown := (HB.out.po _ (List.mem_cons_self ..)).1
      obtain ⟨p, c', hp⟩ := ownR_some hown (by show 0 < vs.length; rw [HVL.out]; omega)
      have hjv : j < vs.length := by rw [HVL.out]; exact hlt
      have hcell : wr.cell? ⟨p, j, none⟩ = some us1[j].1 := by
        have h1 := World.ownsRow.cellAt (hp ▸ hown) j (by show j < vs.length * 1; omega)
        rw [h1]
        show vs[j]? = _
        rw [← HV.out, List.getElem?_map, List.getElem?_eq_getElem hju]
        rfl
      have hp1 : a = some ⟨p, 0, none⟩ := by injection hp
      clear hp
      subst hp1
      have HB2 : Hid (Bo4 w wr B g vb' (n + j) hs' vq qs (us1[j] :: (us1.drop (j + 1) ++ us2)) ((.slice (some ⟨p, 0, none⟩) N c, vs) :: ps)) := by
        have := HB.out
        rw [hdrop, List.cons_append] at this
        exact this
      obtain ⟨a1, n1, c1, hu1⟩ := (HB2.out.ow _ (List.mem_cons_self ..)).1.slc
      have HST := hide (HB2.out.byte (by have := HLh.out; have := HL.out; omega) (by have := HNN.out; omega))
      rw [hu1] at hcell HST
      clear hdrop hown HB hjv hju hu1 HB2
      go_wp2_with fail
      refine HST.out.mono ?_
      rintro e w7 ⟨rfl, vb7, hs7, B7, l7⟩
      have R7 : Hid (∃ (vb' : Value) (hs' : List Hb), Hid (hs'.length = hs.length + (j + 1)) ∧ Hid (Bo4 w w7 B g vb' (n + (j + 1)) hs' vq qs (us1.drop (j + 1) ++ us2) ((.slice (some ⟨p, 0, none⟩) N c, vs) :: ps))) := ⟨vb7, hs7, by have := HLh.out; show _ = _; omega, B7⟩
      clear B7 l7 HST
      go_wp2
      go_roundg (gk - 1)
      case measure => have := HJ.out; omega
      case rel =>
        obtain ⟨vb7, hs7, r1, r2⟩ := R7.out
        exact ⟨j + 1, vb7, hs7, by have := HJ.out; omega, by go_num, r1, r2⟩
    · obtain rfl : j = N := by have := HJ.out; omega
      have dj : decide (j < j) = false := by simp
      have hjI : ¬ (j : Int) < (j : Int) := by omega
      have HB2 : Hid (Bo4 w wr B g vb' (n + j) hs' vq qs us2 ((.slice a j c, vs) :: ps)) := by
        have := HB.out
        rw [List.drop_of_length_le (by rw [HN.out]; exact Nat.le_refl _), List.nil_append] at this
        exact this
      have HST := hide (HB2.out.blob HQ.out (by have := HNN.out; omega))
      clear HB HB2
      go_wp2_with fail
      refine HST.out.mono ?_
      rintro e w7 ⟨rfl, vq7, qs7, B7, l7⟩
      have R7 : Hid (∃ vb' hs' vq' qs', Bo4 w w7 B g vb' (n + j + 1) hs' vq' qs' us2 ps ∧ hs'.length = hs.length + j ∧ qs'.length = qs.length + 1) := ⟨vb', hs', vq7, qs7, B7, HLh.out, l7⟩
      clear B7 l7 HST
      go_wp2
      go_end0
      exact ⟨rfl, R7.out⟩
end Go.Proofs.YtpgkohimcofjnaaGreatDoor
/- Plain facts on words and lists of bits: no Go in sight. -/
namespace Go.Proofs.YtpgkohimcofjnaaGreatDoor

def low (n : Int) : Int := 2 ^ n.toNat - 1
def cLo (n lo : Int) : Int := if n ≤ 64 then lo % 2 ^ n.toNat else lo
def cHi (n hi : Int) : Int := if n ≤ 64 then 0 else hi % 2 ^ (n - 64).toNat
theorem cLo_le {n lo : Int} (h : n ≤ 64) : cLo n lo = lo % 2 ^ n.toNat := by unfold cLo; rw [if_pos h]
theorem cLo_gt {n lo : Int} (h : 64 < n) : cLo n lo = lo := by unfold cLo; rw [if_neg (by omega)]
theorem cHi_le {n hi : Int} (h : n ≤ 64) : cHi n hi = 0 := by unfold cHi; rw [if_pos h]
theorem cHi_gt {n hi : Int} (h : 64 < n) : cHi n hi = hi % 2 ^ (n - 64).toNat := by unfold cHi; rw [if_neg (by omega)]
def bitB (hi lo : Int) (i : Nat) : Bool := if i < 64 then lo.toNat.testBit i else hi.toNat.testBit (i - 64)
def bitsTo (hi lo : Int) (k : Nat) : List Bool := (List.range k).map (bitB hi lo)
def valL : List Bool → Nat
  | [] => 0
  | b :: r => b.toNat + 2 * valL r
def numLo (l : List Bool) : Nat := valL (l.take 64)
def numHi (l : List Bool) : Nat := valL ((l.drop 64).take 64)

theorem valL_lt (l : List Bool) : valL l < 2 ^ l.length := by
  induction l with
  | nil => simp [valL]
  | cons b r ih => simp only [valL, List.length_cons, Nat.pow_succ]; cases b <;> simp <;> omega

theorem valL_testBit (l : List Bool) (i : Nat) : (valL l).testBit i = l.getD i false := by
  induction l generalizing i with
  | nil => simp [valL]
  | cons b r ih =>
    cases i with
    | zero => cases b <;> simp [valL, Nat.testBit_zero]
    | succ j =>
      have h := ih j
      simp only [valL, Nat.testBit_succ, List.getD_cons_succ]
      rw [← h]
      congr 1
      cases b <;> simp <;> omega

theorem valL_snoc (l : List Bool) (b : Bool) : valL (l ++ [b]) = valL l + 2 ^ l.length * b.toNat := by
  induction l with
  | nil => simp [valL]
  | cons c r ih => simp only [List.cons_append, valL, ih, List.length_cons, Nat.pow_succ]; rw [Nat.mul_add, Nat.add_assoc, ← Nat.mul_assoc, Nat.mul_comm (2 ^ r.length) 2]

theorem valL_take_succ (l : List Bool) (k : Nat) (h : k < l.length) : valL (l.take (k + 1)) = valL (l.take k) + 2 ^ k * (l[k]).toNat := by
  rw [List.take_succ_eq_append_getElem h, valL_snoc]
  simp [List.length_take, Nat.min_eq_left (Nat.le_of_lt h)]

theorem numLo_lt (l : List Bool) : numLo l < 18446744073709551616 := by
  have h := valL_lt (l.take 64)
  have h2 : (2 : Nat) ^ (l.take 64).length ≤ 2 ^ 64 := Nat.pow_le_pow_right (by decide) (List.length_take_le _ _)
  exact Nat.lt_of_lt_of_le h h2
theorem numHi_lt (l : List Bool) : numHi l < 18446744073709551616 := by
  have h := valL_lt ((l.drop 64).take 64)
  have h2 : (2 : Nat) ^ ((l.drop 64).take 64).length ≤ 2 ^ 64 := Nat.pow_le_pow_right (by decide) (List.length_take_le _ _)
  exact Nat.lt_of_lt_of_le h h2

theorem numLo_nil : numLo [] = 0 := rfl
theorem numHi_nil : numHi [] = 0 := rfl

/- one round of Number -/
theorem numLo_take_set (l : List Bool) (k : Nat) (h : k < l.length) (h64 : k < 64) : numLo (l.take (k + 1)) = numLo (l.take k) + 2 ^ k * (l[k]).toNat := by
  unfold numLo
  rw [List.take_take, List.take_take, Nat.min_eq_right (by omega), Nat.min_eq_right (by omega)]
  exact valL_take_succ l k h
theorem numLo_take_same (l : List Bool) (k : Nat) (h64 : 64 ≤ k) : numLo (l.take (k + 1)) = numLo (l.take k) := by
  unfold numLo
  rw [List.take_take, List.take_take, Nat.min_eq_left (by omega), Nat.min_eq_left (by omega)]
theorem numHi_take_low (l : List Bool) (k : Nat) (h64 : k ≤ 64) : numHi (l.take k) = 0 := by
  unfold numHi
  rw [List.drop_eq_nil_of_le (by simp; omega)]; rfl
theorem numHi_take_set (l : List Bool) (k : Nat) (h : k < l.length) (h64 : 64 ≤ k) (h128 : k < 128) : numHi (l.take (k + 1)) = numHi (l.take k) + 2 ^ (k - 64) * (l[k]).toNat := by
  unfold numHi
  rw [List.drop_take, List.drop_take, List.take_take, List.take_take, Nat.min_eq_right (by omega), Nat.min_eq_right (by omega)]
  have h1 : k - 64 < (l.drop 64).length := by simp; omega
  have h2 := valL_take_succ (l.drop 64) (k - 64) h1
  have h3 : (l.drop 64)[k - 64] = l[k] := by simp [List.getElem_drop]; congr 1; omega
  rw [h3] at h2
  rw [← h2]
  congr 2
  omega
theorem numHi_take_same (l : List Bool) (k : Nat) (h128 : 128 ≤ k) : numHi (l.take (k + 1)) = numHi (l.take k) := by
  unfold numHi
  rw [List.drop_take, List.drop_take, List.take_take, List.take_take, Nat.min_eq_left (by omega), Nat.min_eq_left (by omega)]

/- what Number makes of Bits -/
theorem bitsTo_length (hi lo : Int) (k : Nat) : (bitsTo hi lo k).length = k := by simp [bitsTo]
theorem bitsTo_succ (hi lo : Int) (k : Nat) : bitsTo hi lo (k + 1) = bitsTo hi lo k ++ [bitB hi lo k] := by simp [bitsTo, List.range_succ]
theorem bitsTo_getD (hi lo : Int) (k i : Nat) : (bitsTo hi lo k).getD i false = (decide (i < k) && bitB hi lo i) := by
  by_cases h : i < k
  · simp [bitsTo, List.getD_eq_getElem?_getD, h]
  · simp [bitsTo, List.getD_eq_getElem?_getD, h]

theorem numLo_bits (hi lo : Int) (n : Int) (h0 : 0 ≤ n) (l0 : 0 ≤ lo) (l1 : lo < 18446744073709551616) : ((numLo (bitsTo hi lo n.toNat) : Nat) : Int) = cLo n lo := by
  obtain ⟨n, rfl⟩ := Int.eq_ofNat_of_zero_le h0
  obtain ⟨lo, rfl⟩ := Int.eq_ofNat_of_zero_le l0
  have hlo : lo < 2 ^ 64 := by omega
  have key : numLo (bitsTo hi lo n) = lo % 2 ^ (min n 64) := by
    refine Nat.eq_of_testBit_eq fun j => ?_
    rw [numLo, valL_testBit, Nat.testBit_mod_two_pow]
    have h := bitsTo_getD hi lo n j
    rw [List.getD_eq_getElem?_getD] at h ⊢
    rw [List.getElem?_take]
    by_cases hj : j < 64
    · rw [if_pos hj, h]
      simp only [bitB, if_pos hj, Int.toNat_natCast]
      congr 1
      simp; omega
    · rw [if_neg hj]
      simp; omega
  unfold cLo
  rw [show ((n : Int).toNat) = n from rfl, key]
  by_cases h : (n : Int) ≤ 64
  · rw [if_pos h, Nat.min_eq_left (by omega)]; simp
  · rw [if_neg h, Nat.min_eq_right (by omega), Nat.mod_eq_of_lt hlo]

theorem numHi_bits (hi lo : Int) (n : Int) (h0 : 0 ≤ n) (h128 : n ≤ 128) (l0 : 0 ≤ hi) : ((numHi (bitsTo hi lo n.toNat) : Nat) : Int) = cHi n hi := by
  obtain ⟨n, rfl⟩ := Int.eq_ofNat_of_zero_le h0
  obtain ⟨hi, rfl⟩ := Int.eq_ofNat_of_zero_le l0
  have key : numHi (bitsTo hi lo n) = hi % 2 ^ (n - 64) := by
    refine Nat.eq_of_testBit_eq fun j => ?_
    rw [numHi, valL_testBit, Nat.testBit_mod_two_pow]
    have h := bitsTo_getD hi lo n (64 + j)
    rw [List.getD_eq_getElem?_getD] at h ⊢
    rw [List.getElem?_take, List.getElem?_drop]
    by_cases hj : j < 64
    · rw [if_pos hj, h]
      simp only [bitB, if_neg (show ¬ 64 + j < 64 by omega), Int.toNat_natCast, Nat.add_sub_cancel_left]
      congr 1
      simp; omega
    · rw [if_neg hj]
      simp; omega
  unfold cHi
  rw [show ((n : Int).toNat) = n from rfl, key]
  by_cases h : (n : Int) ≤ 64
  · rw [if_pos h, show n - 64 = 0 by omega]; simp [Nat.mod_one]
  · rw [if_neg h, show ((n : Int) - 64).toNat = n - 64 by omega]; simp

theorem low_bd (n : Int) (h0 : 0 ≤ n) (h1 : n ≤ 64) : 0 ≤ low n ∧ low n < 18446744073709551616 := by
  unfold low
  have h : (2 : Nat) ^ n.toNat ≤ 2 ^ 64 := Nat.pow_le_pow_right (by decide) (by omega)
  have h2 : (0 : Nat) < 2 ^ n.toNat := Nat.pow_pos (by decide)
  have h3 : (2 : Int) ^ n.toNat = ((2 ^ n.toNat : Nat) : Int) := by simp
  rw [h3]
  omega
theorem and_low (n lo : Int) (h0 : 0 ≤ n) (h1 : n ≤ 64) (l0 : 0 ≤ lo) (l1 : lo < 18446744073709551616) : bits .and .u64 lo (low n) = lo % 2 ^ n.toNat := by
  have hb := low_bd n h0 h1
  rw [u64_and lo (low n) l0 l1 hb.1 hb.2]
  obtain ⟨n, rfl⟩ := Int.eq_ofNat_of_zero_le h0
  obtain ⟨lo, rfl⟩ := Int.eq_ofNat_of_zero_le l0
  have e : (low (n : Int)).toNat = 2 ^ n - 1 := by
    unfold low
    have : ((2 : Int) ^ ((n : Int)).toNat - 1) = ((2 ^ n - 1 : Nat) : Int) := by
      rw [Int.ofNat_sub (Nat.one_le_two_pow)]; simp
    rw [this]; rfl
  rw [e, Int.toNat_natCast, Nat.and_two_pow_sub_one_eq_mod]
  simp
theorem wrap_low (n : Int) (h0 : 0 ≤ n) (h1 : n ≤ 64) : IntKind.u64.wrap (IntKind.u64.wrap (2 ^ n.toNat) - 1) = low n := by
  have hb := low_bd n h0 h1
  rw [IntKind.wrap_u64, IntKind.wrap_u64]
  unfold low at hb ⊢
  omega
theorem or_set (x k : Nat) (hx : x < 2 ^ k) (hk : k < 64) : bits .or .u64 (x : Int) (IntKind.u64.wrap (2 ^ k)) = ((x + 2 ^ k : Nat) : Int) := by
  have h1 : (2 : Nat) ^ k < 2 ^ 64 := Nat.pow_lt_pow_right (by decide) hk
  have e : IntKind.u64.wrap (2 ^ k) = ((2 ^ k : Nat) : Int) := by
    rw [IntKind.wrap_u64, show ((2 : Int) ^ k) = ((2 ^ k : Nat) : Int) by simp]
    omega
  rw [e, u64_or_nat x (2 ^ k) (by omega) (by omega)]
  have := nat_join k (2 ^ k) x (Nat.mod_self _) hx
  rw [Nat.or_comm, this, Nat.add_comm]
theorem numLo_take_lt (l : List Bool) (k : Nat) (h : k ≤ 64) : numLo (l.take k) < 2 ^ k := by
  unfold numLo
  rw [List.take_take, Nat.min_eq_right h]
  exact Nat.lt_of_lt_of_le (valL_lt _) (Nat.pow_le_pow_right (by decide) (List.length_take_le _ _))
theorem numHi_take_lt (l : List Bool) (k : Nat) (h : k ≤ 128) : numHi (l.take k) < 2 ^ (k - 64) := by
  unfold numHi
  rw [List.drop_take, List.take_take, Nat.min_eq_right (by omega)]
  exact Nat.lt_of_lt_of_le (valL_lt _) (Nat.pow_le_pow_right (by decide) (List.length_take_le _ _))
theorem lo_set (l : List Bool) (k : Nat) (h : k < l.length) (hb : l[k] = true) (h64 : k < 64) : bits .or .u64 ((numLo (l.take k) : Nat) : Int) (IntKind.u64.wrap (2 ^ k)) = ((numLo (l.take (k + 1)) : Nat) : Int) := by
  rw [or_set _ k (numLo_take_lt l k (by omega)) h64, numLo_take_set l k h h64, hb]; simp
theorem hi_set (l : List Bool) (k : Nat) (h : k < l.length) (hb : l[k] = true) (h64 : 64 ≤ k) (h128 : k < 128) : bits .or .u64 ((numHi (l.take k) : Nat) : Int) (IntKind.u64.wrap (2 ^ (k - 64))) = ((numHi (l.take (k + 1)) : Nat) : Int) := by
  rw [or_set _ (k - 64) (numHi_take_lt l k (by omega)) (by omega), numHi_take_set l k h h64 h128, hb]; simp
theorem and_one (x : Int) (h0 : 0 ≤ x) (h1 : x < 18446744073709551616) : bits .and .u64 x 1 = x % 2 := by
  rw [u64_and x 1 h0 h1 (by decide) (by decide)]
  obtain ⟨x, rfl⟩ := Int.eq_ofNat_of_zero_le h0
  have : (x : Int).toNat &&& (1 : Int).toNat = x % 2 := by simp [Nat.and_one_is_mod]
  rw [this]; simp
theorem bit_at (x : Int) (k : Nat) (h0 : 0 ≤ x) (h1 : x < 18446744073709551616) : (bits .and .u64 (x / 2 ^ k) 1 == 1) = x.toNat.testBit k := by
  obtain ⟨x, rfl⟩ := Int.eq_ofNat_of_zero_le h0
  have e : ((x : Int) / 2 ^ k) = ((x / 2 ^ k : Nat) : Int) := by simp
  have hle : x / 2 ^ k ≤ x := Nat.div_le_self _ _
  rw [e, and_one _ (Int.natCast_nonneg _) (Int.lt_of_le_of_lt (Int.ofNat_le.2 hle) h1)]
  have t : (x / 2 ^ k) % 2 = (x.testBit k).toNat := by rw [Nat.toNat_testBit]
  rw [Int.toNat_natCast]
  cases h : x.testBit k <;> rw [h] at t <;> simp at t <;> simp <;> omega
theorem bit_lo (hi lo : Int) (k : Nat) (hk : (k : Int) < 64) (h0 : 0 ≤ lo) (h1 : lo < 18446744073709551616) : (bits .and .u64 (lo / 2 ^ k) 1 == 1) = bitB hi lo k := by
  rw [bit_at lo k h0 h1, bitB, if_pos (by omega)]
theorem bit_hi (hi lo : Int) (k : Nat) (hk : 64 ≤ (k : Int)) (h0 : 0 ≤ hi) (h1 : hi < 18446744073709551616) : (bits .and .u64 (hi / 2 ^ (k - 64)) 1 == 1) = bitB hi lo k := by
  rw [bit_at hi _ h0 h1, bitB, if_neg (by omega)]
end Go.Proofs.YtpgkohimcofjnaaGreatDoor
