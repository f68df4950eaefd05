/- Pieces of the proof: BnQ. -/
import Derived.Test.YtbemfjdloeipmaaGreatDoorM41
/- Ints, Numbers of a Book. -/
namespace Go.Proofs.YtbemfjdloeipmaaGreatDoor
open Go.RowKit

set_option maxRecDepth 100000 in
theorem keepInt_bok {W : World} {B g n : Nat} {vi vn v : Value} {is ns : List Hc} {len : Nat} {xs : List Value} (h : BokN W B g vi is vn ns) (c0 : W.cell? ⟨g, 0, none⟩ = some (.int .i64 (n : Int))) (hl : is.length < 1000) (hn : n < 1000) (ho : W.ownsRow B 3 1 v len xs) (hx : len ≤ 100000000) (s1 : v.ownBlock ≠ some g) (s3 : ∀ x ∈ is, ∀ b, x.v.ownBlock = some b → v.ownBlock ≠ some b) :
    Calls Tryz.prog 38 #[.pointer (some ⟨g, 0, none⟩), v] W fun e W' => e = .returned (.tuple #[]) ∧ ∃ vi', BokN W' B g vi' (is ++ [⟨v, .slice none 0 0, n + 1, len⟩]) vn ns ∧ W'.cell? ⟨g, 0, none⟩ = some (.int .i64 ((n + 1 : Nat) : Int)) ∧ Fr (BEc g vi) W W' ∧ ∀ b, vi'.ownBlock = some b → vi.ownBlock = some b ∨ W.heap.size ≤ b := by
  obtain ⟨a, c, hv⟩ := owR_shape ho
  subst hv
  have HK := hide (keepInt_bk h.bi c0 (by omega) (by omega) a len c)
  have HR : Hid (∀ W' vi', KeptC 113 1 W W' B g vi vi' (n + 1) (is ++ [⟨.slice a len c, .slice none 0 0, n + 1, len⟩]) → BokN W' B g vi' (is ++ [⟨.slice a len c, .slice none 0 0, n + 1, len⟩]) vn ns) := fun W' vi' hk => by
    have nE : ∀ {e c n : Nat} {v : Value} {xs : List Value}, W.ownsRow B e c v n xs → e ≠ 113 → v.ownBlock ≠ some g → ∀ b, v.ownBlock = some b → ¬ BEc g vi b := fun ho hne hg b hb hE => by
      rcases hE with e | e
      · exact hg (by rw [hb, e])
      · obtain ⟨c1, e1⟩ := row_ty ho hb
        obtain ⟨c2, e2⟩ := row_ty h.bi.row e
        exact hne (ty_ne e1 e2)
    have SS : SepC g vi' (is ++ [⟨.slice a len c, .slice none 0 0, n + 1, len⟩]) := by
      refine ⟨fun x hx => ?_, fun x hx b hb' e => ?_, fun i j hi hj hne b hbi hbj => ?_⟩
      · rcases List.mem_append.1 hx with hx | hx
        · exact h.si.g x hx
        · simp at hx; subst hx; exact s1
      · have hown : ∃ n ys, W.ownsRow B 3 1 x.v n ys := by
          rcases List.mem_append.1 hx with hx | hx
          · obtain ⟨ys, hy⟩ := h.oi x hx; exact ⟨_, ys, hy⟩
          · simp at hx; subst hx; exact ⟨_, xs, ho⟩
        obtain ⟨_, ys, hy⟩ := hown
        rcases hk.bl b e with e | e
        · obtain ⟨c1, e1⟩ := row_ty hy hb'
          obtain ⟨c2, e2⟩ := row_ty h.bi.row e
          exact absurd (ty_ne e1 e2) (by decide)
        · have := (World.ownsRow.lt hy b hb').2; omega
      · by_cases h1 : i < is.length
        · rw [List.getElem_append_left h1] at hbi
          by_cases h2 : j < is.length
          · rw [List.getElem_append_left h2] at hbj
            exact h.si.p i j h1 h2 hne b hbi hbj
          · have : j = is.length := by simp at hj; omega
            subst this
            simp only [List.getElem_concat_length] at hbj
            exact s3 _ (List.getElem_mem h1) b hbi hbj
        · have : i = is.length := by simp at hi; omega
          subst this
          simp only [List.getElem_concat_length] at hbi
          have h2 : j < is.length := by simp at hj; omega
          rw [List.getElem_append_left h2] at hbj
          exact s3 _ (List.getElem_mem h2) b hbj hbi
    have OW : ∀ x ∈ is ++ [⟨.slice a len c, .slice none 0 0, n + 1, len⟩], ∃ xs, W'.ownsRow B 3 1 x.v x.n xs := fun x hx => by
      rcases List.mem_append.1 hx with hx | hx
      · obtain ⟨ys, hy⟩ := h.oi x hx
        exact ⟨ys, owR_fr hy hk.fr (nE hy (by decide) (h.si.g x hx))⟩
      · simp at hx; subst hx; exact ⟨xs, owR_fr ho hk.fr (nE ho (by decide) s1)⟩
    have LI : ∀ x ∈ is ++ [(⟨.slice a len c, .slice none 0 0, n + 1, len⟩ : Hc)], x.n ≤ 100000000 ∧ x.m < 1000000000 ∧ ∃ a n c, x.vl = .slice a n c := fun x hx => by
      rcases List.mem_append.1 hx with hx | hx
      · exact h.li x hx
      · simp at hx; subst hx; exact ⟨by assumption, by show n + 1 < _; omega, _, _, _, rfl⟩
    have NN : (is ++ [(⟨.slice a len c, .slice none 0 0, n + 1, len⟩ : Hc)]).length ≤ 1000000 := by simp; omega
    have GO : GB 132 6 W' B g vn ns := ⟨h.bn.gB, (hk.cs 6 (by decide) (by decide)).trans h.bn.co, hk.bk.soft, owR_fr h.bn.row hk.fr (nE h.bn.row (by decide) h.bn.ne), h.bn.ne⟩
    have OO : ∀ x ∈ ns, ∃ xs, W'.ownsRow B 29 3 x.v x.n xs := fun x hx => by
      obtain ⟨ys, hy⟩ := h.on x hx
      exact ⟨ys, owR_fr hy hk.fr (nE hy (by decide) (h.sn.g x hx))⟩
    have CZ : ∀ o, 1 ≤ o → o ≤ 30 → o ≠ 1 → o ≠ 6 → W'.cell? ⟨g, o, none⟩ = some (.slice none 0 0) := fun o h1 h2 h3 h4 => (hk.cs o h3 (by omega)).trans (h.cz o h1 h2 h3 h4)
    exact { bi := hk.bk, bn := GO, cz := CZ, si := SS, sn := h.sn, oi := OW, on := OO, li := LI, ln := h.ln, ni := NN, nn := h.nn }
  clear h ho s1 s3 c0
  go_enter Tryz.func38, Tryz.ntmps38
  go_wp2_with fail
  refine HK.out.mono ?_
  rintro e W' ⟨rfl, vb', hk⟩
  have R1 := hide (HR.out _ _ hk)
  have R2 := hide hk.c0
  have R3 := hide hk.fr
  have R4 := hide hk.bl
  clear hk HR HK
  go_wp2
  go_end0
  exact ⟨rfl, _, R1.out, R2.out, R3.out, R4.out⟩
set_option maxRecDepth 100000 in
theorem keepNumber_bok {W : World} {B g n : Nat} {vi vn v : Value} {is ns : List Hc} {len : Nat} {xs : List Value} (h : BokN W B g vi is vn ns) (c0 : W.cell? ⟨g, 0, none⟩ = some (.int .i64 (n : Int))) (hl : ns.length < 1000) (hn : n < 1000) (ho : W.ownsRow B 29 3 v len xs) (hx : len ≤ 100000000) (s1 : v.ownBlock ≠ some g) (s3 : ∀ x ∈ ns, ∀ b, x.v.ownBlock = some b → v.ownBlock ≠ some b) :
    Calls Tryz.prog 37 #[.pointer (some ⟨g, 0, none⟩), v] W fun e W' => e = .returned (.tuple #[]) ∧ ∃ vn', BokN W' B g vi is vn' (ns ++ [⟨v, .slice none 0 0, n + 1, len⟩]) ∧ W'.cell? ⟨g, 0, none⟩ = some (.int .i64 ((n + 1 : Nat) : Int)) ∧ Fr (BEc g vn) W W' ∧ ∀ b, vn'.ownBlock = some b → vn.ownBlock = some b ∨ W.heap.size ≤ b := by
  obtain ⟨a, c, hv⟩ := owR_shape ho
  subst hv
  have HK := hide (keepNumber_bk h.bn c0 (by omega) (by omega) a len c)
  have HR : Hid (∀ W' vn', KeptC 132 6 W W' B g vn vn' (n + 1) (ns ++ [⟨.slice a len c, .slice none 0 0, n + 1, len⟩]) → BokN W' B g vi is vn' (ns ++ [⟨.slice a len c, .slice none 0 0, n + 1, len⟩])) := fun W' vn' hk => by
    have nE : ∀ {e c n : Nat} {v : Value} {xs : List Value}, W.ownsRow B e c v n xs → e ≠ 132 → v.ownBlock ≠ some g → ∀ b, v.ownBlock = some b → ¬ BEc g vn b := fun ho hne hg b hb hE => by
      rcases hE with e | e
      · exact hg (by rw [hb, e])
      · obtain ⟨c1, e1⟩ := row_ty ho hb
        obtain ⟨c2, e2⟩ := row_ty h.bn.row e
        exact hne (ty_ne e1 e2)
    have SS : SepC g vn' (ns ++ [⟨.slice a len c, .slice none 0 0, n + 1, len⟩]) := by
      refine ⟨fun x hx => ?_, fun x hx b hb' e => ?_, fun i j hi hj hne b hbi hbj => ?_⟩
      · rcases List.mem_append.1 hx with hx | hx
        · exact h.sn.g x hx
        · simp at hx; subst hx; exact s1
      · have hown : ∃ n ys, W.ownsRow B 29 3 x.v n ys := by
          rcases List.mem_append.1 hx with hx | hx
          · obtain ⟨ys, hy⟩ := h.on x hx; exact ⟨_, ys, hy⟩
          · simp at hx; subst hx; exact ⟨_, xs, ho⟩
        obtain ⟨_, ys, hy⟩ := hown
        rcases hk.bl b e with e | e
        · obtain ⟨c1, e1⟩ := row_ty hy hb'
          obtain ⟨c2, e2⟩ := row_ty h.bn.row e
          exact absurd (ty_ne e1 e2) (by decide)
        · have := (World.ownsRow.lt hy b hb').2; omega
      · by_cases h1 : i < ns.length
        · rw [List.getElem_append_left h1] at hbi
          by_cases h2 : j < ns.length
          · rw [List.getElem_append_left h2] at hbj
            exact h.sn.p i j h1 h2 hne b hbi hbj
          · have : j = ns.length := by simp at hj; omega
            subst this
            simp only [List.getElem_concat_length] at hbj
            exact s3 _ (List.getElem_mem h1) b hbi hbj
        · have : i = ns.length := by simp at hi; omega
          subst this
          simp only [List.getElem_concat_length] at hbi
          have h2 : j < ns.length := by simp at hj; omega
          rw [List.getElem_append_left h2] at hbj
          exact s3 _ (List.getElem_mem h2) b hbj hbi
    have OW : ∀ x ∈ ns ++ [⟨.slice a len c, .slice none 0 0, n + 1, len⟩], ∃ xs, W'.ownsRow B 29 3 x.v x.n xs := fun x hx => by
      rcases List.mem_append.1 hx with hx | hx
      · obtain ⟨ys, hy⟩ := h.on x hx
        exact ⟨ys, owR_fr hy hk.fr (nE hy (by decide) (h.sn.g x hx))⟩
      · simp at hx; subst hx; exact ⟨xs, owR_fr ho hk.fr (nE ho (by decide) s1)⟩
    have LI : ∀ x ∈ ns ++ [(⟨.slice a len c, .slice none 0 0, n + 1, len⟩ : Hc)], x.n ≤ 100000000 ∧ x.m < 1000000000 ∧ ∃ a n c, x.vl = .slice a n c := fun x hx => by
      rcases List.mem_append.1 hx with hx | hx
      · exact h.ln x hx
      · simp at hx; subst hx; exact ⟨by assumption, by show n + 1 < _; omega, _, _, _, rfl⟩
    have NN : (ns ++ [(⟨.slice a len c, .slice none 0 0, n + 1, len⟩ : Hc)]).length ≤ 1000000 := by simp; omega
    have GO : GB 113 1 W' B g vi is := ⟨h.bi.gB, (hk.cs 1 (by decide) (by decide)).trans h.bi.co, hk.bk.soft, owR_fr h.bi.row hk.fr (nE h.bi.row (by decide) h.bi.ne), h.bi.ne⟩
    have OO : ∀ x ∈ is, ∃ xs, W'.ownsRow B 3 1 x.v x.n xs := fun x hx => by
      obtain ⟨ys, hy⟩ := h.oi x hx
      exact ⟨ys, owR_fr hy hk.fr (nE hy (by decide) (h.si.g x hx))⟩
    have CZ : ∀ o, 1 ≤ o → o ≤ 30 → o ≠ 1 → o ≠ 6 → W'.cell? ⟨g, o, none⟩ = some (.slice none 0 0) := fun o h1 h2 h3 h4 => (hk.cs o h4 (by omega)).trans (h.cz o h1 h2 h3 h4)
    exact { bn := hk.bk, bi := GO, cz := CZ, sn := SS, si := h.si, on := OW, oi := OO, ln := LI, li := h.li, nn := NN, ni := h.ni }
  clear h ho s1 s3 c0
  go_enter Tryz.func37, Tryz.ntmps37
  go_wp2_with fail
  refine HK.out.mono ?_
  rintro e W' ⟨rfl, vb', hk⟩
  have R1 := hide (HR.out _ _ hk)
  have R2 := hide hk.c0
  have R3 := hide hk.fr
  have R4 := hide hk.bl
  clear hk HR HK
  go_wp2
  go_end0
  exact ⟨rfl, _, R1.out, R2.out, R3.out, R4.out⟩
end Go.Proofs.YtbemfjdloeipmaaGreatDoor
